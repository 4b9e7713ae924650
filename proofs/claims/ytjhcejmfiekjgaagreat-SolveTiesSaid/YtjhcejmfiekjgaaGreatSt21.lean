/- Rsc Cla -/
import Derived.Test.YtjhcejmfiekjgaaGreatSt16
import Derived.Test.YtjhcejmfiekjgaaGreatSt19
set_option maxRecDepth 100000
set_option maxHeartbeats 64000000
/- Regions that draw their order and hold a chain of stores: quiet operations and stores in whatever order the edges allow, as long as no store turns what a quiet one looks at. -/
namespace Go.Proofs.YtjhcejmfiekjgaaGreat.Fx.RC
open Go.ChangeShapes Go.WideShapes Go.ChangeAt Go.RowKit
set_option linter.unusedVariables false
theorem eval_slot {a b : Act} {x : Operand} (h : ∀ t, x = .tmp t → a.tmps[t]? = b.tmps[t]?) : a.eval x = b.eval x := by
 cases x with
 | tmp t => simp [Act.eval, h t rfl]
 | _ => rfl
theorem exec_slot {ops : Array Oper} {a b : Act} {o : Oper} (hs : ∀ cs c, o.op ≠ .select cs c) (h : ∀ t, t ∈ o.looksAt ops → a.tmps[t]? = b.tmps[t]?) : execOp a.eval o = execOp b.eval o :=
 execOp_congr o hs fun x hx => eval_slot fun t e => h t (by
  subst e
  exact List.mem_append_left _ (List.mem_filterMap.2 ⟨.tmp t, by simpa using hx, rfl⟩))
theorem wanted_free {ops : Array Oper} {o : Oper} (a : Act) (h : o.guard = none) : Region.wanted o (yielded ops a.tmps) = true := by unfold Region.wanted; rw [h]
def laterB (ops : Array Oper) : List Oper → Bool
 | [] => true
 | o :: l => (o :: l).all (fun o' => match o'.dst with | some d => !(o.looksAt ops).contains d | none => true) && laterB ops l
section
variable {P : Program} {ops : Array Oper} {md : Region.Mode} {Q : Exit → Act → World → Prop} {A : Act} {C : Nat → World → Prop}
theorem defers_put (a : Act) (d : Option Tmp) (v : Value) : (a.put d v).defers = a.defers := by cases d <;> rfl
theorem quiet_defers {C : World → Prop} : ∀ (l : List Oper) (a : Act), wpQuiet P ops C (fun a' => a' = A) l a → A.defers = a.defers ∧ A.tmps.size = a.tmps.size
 | [], a, h => by rw [show a = A from h]; exact ⟨rfl, rfl⟩
 | o :: l, a, h => by
  obtain ⟨v, _, h'⟩ := quiet_cons h
  obtain ⟨h1, h2⟩ := quiet_defers l _ h'
  exact ⟨h1.trans (defers_put a o.dst v), h2.trans (put_size a o.dst v)⟩
theorem quiet_at {C : World → Prop} (hsel : ∀ (j : Nat) (o : Oper) cs b, ops[j]? = some o → o.op ≠ .select cs b) {N : Nat} : ∀ (l : List Oper) (a : Act), wpQuiet P ops C (fun a' => a' = A) l a → a.tmps.size = N → dstB N l = true → laterB ops l = true → (∀ o ∈ l, o.guard = none ∧ ∃ j : Nat, ops[j]? = some o) →
  ∀ o ∈ l, ∃ v d, o.dst = some d ∧ A.tmps[d]? = some v ∧ ∀ u, C u → o.quietAt P A C u v
 | [], a, _, _, _, _, _, o, ho => by cases ho
 | o :: l, a, h, hN, hD, hL, hG, x, hx => by
  obtain ⟨v, hy, h'⟩ := quiet_cons h
  have hD0 := hD
  unfold dstB at hD
  unfold laterB at hL
  simp only [Bool.and_eq_true, List.all_eq_true] at hD hL
  rcases List.mem_cons.1 hx with rfl | hx
  ·cases hd : x.dst with
   | none => rw [hd] at hD; cases hD.1
   | some d =>
    rw [hd] at hD
    simp only [Bool.and_eq_true, decide_eq_true_eq, List.all_eq_true, bne_iff_ne] at hD
    obtain ⟨hg, j, hj⟩ := hG x (List.mem_cons_self ..)
    refine ⟨v, d, rfl, ?_, fun u hu => ?_⟩
    ·rw [last_slot l _ h' hD.1.2, hd]
     exact put_get a d v (by rw [hN]; exact hD.1.1)
    ·rcases hy with ⟨_, hv⟩ | ⟨hw, _⟩
     ·have e : execOp A.eval x = execOp a.eval x := exec_slot (ops := ops) (hsel j x · · hj) fun t ht => last_slot (x :: l) a h fun o' ho' e => by
       have := hL.1 o' ho'
       rw [e] at this
       simp only [Bool.not_eq_true'] at this
       have h2 : (x.looksAt ops).contains t = true := by simpa using ht
       rw [h2] at this
       cases this
      have := hv u hu
      unfold Oper.quietAt at this ⊢
      rw [e]
      exact this
     ·rw [wanted_free a hg] at hw; cases hw
  ·exact quiet_at hsel l _ h' ((put_size ..).trans hN) hD.2 hL.2 (fun o' ho' => hG o' (List.mem_cons_of_mem _ ho')) x hx
def Ag (ops : Array Oper) (A : Act) (got : Array Bool) (a : Act) : Prop :=
 a.tmps.size = A.tmps.size ∧ a.defers = A.defers ∧ ∀ t, (∀ (j : Nat) o, ops[j]? = some o → o.dst = some t → got.getD j true = true) → a.tmps[t]? = A.tmps[t]?
def pend (ops : Array Oper) (got : Array Bool) : Nat := ((List.range ops.size).filter fun j => !got.getD j true).length
theorem pend_set {got : Array Bool} {i : Nat} (hi : i < ops.size) (hs : got.size = ops.size) (hg : got.getD i true = false) : pend ops (got.setIfInBounds i true) + 1 = pend ops got := by
 unfold pend
 have key : ∀ l : List Nat, l.Nodup → i ∈ l → (l.filter fun j => !(got.setIfInBounds i true).getD j true).length + 1 = (l.filter fun j => !got.getD j true).length := by
  intro l
  induction l with
  | nil => intro _ h; cases h
  | cons x l ih =>
   intro hn hm
   rw [List.nodup_cons] at hn
   by_cases e : x = i
   ·subst e
    have h1 : (got.setIfInBounds x true).getD x true = true := by simp [hs, hi]
    have h2 : (l.filter fun j => !(got.setIfInBounds x true).getD j true) = l.filter fun j => !got.getD j true := List.filter_congr fun j hj => by
     have hne : x ≠ j := fun e => hn.1 (by rw [e]; exact hj)
     rw [getD_set_ne true hne]
    simp only [List.filter_cons, h1, hg, Bool.not_true, Bool.not_false, if_true, Bool.false_eq_true, if_false, List.length_cons, h2]
   ·have hm' : i ∈ l := (List.mem_cons.1 hm).resolve_left (fun h => e h.symm)
    have h1 : (got.setIfInBounds i true).getD x true = got.getD x true := getD_set_ne true (fun h => e h.symm)
    simp only [List.filter_cons, h1]
    split
    ·simp only [List.length_cons]; rw [← ih hn.2 hm']
    ·exact ih hn.2 hm'
 exact key _ List.nodup_range (List.mem_range.2 hi)
theorem pend_zero {got : Array Bool} (h : pend ops got = 0) {j : Nat} (hj : j < ops.size) : got.getD j true = true := by
 unfold pend at h
 have := List.length_eq_zero_iff.1 h
 rw [List.filter_eq_nil_iff] at this
 have := this j (List.mem_range.2 hj)
 simpa using this
theorem any_stores (ts : List Nat) (hsel : ∀ (j : Nat) (o : Oper) cs b, ops[j]? = some o → o.op ≠ .select cs b) (hgd : ∀ (j : Nat) o, ops[j]? = some o → o.guard = none)
  (hlow : ∀ (j : Nat) o, ops[j]? = some o → ∀ e ∈ o.after, Region.binds md e = true → e.on < j)
  (hwr : ∀ (j m : Nat) o o' t, ops[j]? = some o → ops[m]? = some o' → t ∈ o.looksAt ops → o'.dst = some t → ∃ e ∈ o.after, Region.binds md e = true ∧ e.on = m)
  (hone : ∀ (j m : Nat) o o' t, ops[j]? = some o → ops[m]? = some o' → o.dst = some t → o'.dst = some t → j = m)
  (htd : ∀ (k : Nat) j, ts[k]? = some j → ∃ o, ops[j]? = some o ∧ o.dst = none) (hti : ∀ (j : Nat) o, ops[j]? = some o → o.dst = none → ∃ k : Nat, ts[k]? = some j)
  (htw : ∀ (k : Nat) j i o, ts[k + 1]? = some j → ts[k]? = some i → ops[j]? = some o → ∃ e ∈ o.after, Region.binds md e = true ∧ e.on = i)
  (hq : ∀ (j : Nat) o d s, ops[j]? = some o → o.dst = some d → ∃ v, A.tmps[d]? = some v ∧ ∀ u, C s u → o.quietAt P A (C s) u v)
  (hst : ∀ (k : Nat) j o, ts[k]? = some j → ops[j]? = some o → ∀ u, C k u → ∃ u', C (k + 1) u' ∧ ((∃ x, (execOp A.eval o).run P u = .ok (.value x) u') ∨ (execOp A.eval o).run P u = .ok .skip u'))
  (hQ : ∀ u, C ts.length u → Q .normal A u) :
  ∀ (f : Nat) (got : Array Bool) (a : Act) (s : Nat) (u : World), C s u → got.size = ops.size → pend ops got = f → (∀ (k : Nat) j, ts[k]? = some j → (got.getD j true = true ↔ k < s)) → s ≤ ts.length → Ag ops A got a → wpAny P md ops Q f got a u
 | 0, got, a, s, u, hu, hz, hp, hts, hsl, hag => by
  have all : ∀ j, j < ops.size → got.getD j true = true := fun j hj => pend_zero hp hj
  have hs : s = ts.length := by
   rcases Nat.lt_or_ge s ts.length with h | h
   ·have hk : ts[s]? = some ts[s] := List.getElem?_eq_getElem h
    obtain ⟨o, ho, _⟩ := htd s _ hk
    have := (hts s _ hk).1 (all _ (Array.getElem?_eq_some_iff.1 ho).1)
    omega
   ·omega
  have ea : a = A := by
   obtain ⟨h1, h2, h3⟩ := hag
   cases a; cases A
   simp only [] at h1 h2 h3
   subst h2
   congr 1
   refine Array.ext_getElem? fun t => h3 t fun j o ho _ => all j (Array.getElem?_eq_some_iff.1 ho).1
  refine ⟨?_, by rw [ea]; exact hQ _ (hs ▸ hu)⟩
  refine List.eq_nil_iff_forall_not_mem.2 fun j hj => ?_
  obtain ⟨h1, o, ho, _⟩ := mem_ready.1 hj
  rw [all j (Array.getElem?_eq_some_iff.1 ho).1] at h1
  cases h1
 | f + 1, got, a, s, u, hu, hz, hp, hts, hsl, hag => by
  refine ⟨fun hr => ?_, fun i hi => ?_⟩
  ·exfalso
   -- the least that is not done is ready
   have hne : ∃ j, j < ops.size ∧ got.getD j true = false := by
    refine Classical.byContradiction fun hn => ?_
    have : pend ops got = 0 := by
     unfold pend
     rw [List.length_eq_zero_iff, List.filter_eq_nil_iff]
     intro j hj
     cases hg : got.getD j true with
     | true => simp
     | false => exact absurd ⟨j, List.mem_range.1 hj, hg⟩ hn
    omega
   have least : ∀ n j, j < n → j < ops.size → got.getD j true = false → ∃ m, m < ops.size ∧ got.getD m true = false ∧ ∀ x, x < m → got.getD x true = true := by
    intro n
    induction n with
    | zero => intro j h; omega
    | succ n ih =>
     intro j hj hjs hg
     by_cases h : ∃ x, x < j ∧ got.getD x true = false
     ·obtain ⟨x, hx, hgx⟩ := h
      exact ih x (by omega) (by omega) hgx
     ·refine ⟨j, hjs, hg, fun x hx => ?_⟩
      cases hgx : got.getD x true with
      | true => rfl
      | false => exact absurd ⟨x, hx, hgx⟩ h
   obtain ⟨j, hj, hg⟩ := hne
   obtain ⟨m, hm, hgm, hbelow⟩ := least (j + 1) j (by omega) hj hg
   have hom : ops[m]? = some ops[m] := Array.getElem?_eq_getElem hm
   have : m ∈ Region.ready md ops got := mem_ready.2 ⟨hgm, _, hom, fun e he hb => by
    have h1 := hlow m _ hom e he hb
    have h2 := hbelow _ h1
    have h3 : e.on < got.size := by rw [hz]; omega
    simpa [h3] using h2⟩
   rw [hr] at this
   cases this
  ·obtain ⟨hun, o, ho, hall⟩ := mem_ready.1 hi
   have his : i < ops.size := (Array.getElem?_eq_some_iff.1 ho).1
   have done : ∀ m, got.getD m false = true → got.getD m true = true := fun m h => by
    cases h2 : got.getD m true with
    | true => rfl
    | false => rw [getD_both h2] at h; cases h
   have he : execOp a.eval o = execOp A.eval o := exec_slot (ops := ops) (hsel i o · · ho) fun t ht => hag.2.2 t fun m o' ho' hd => by
    obtain ⟨e, he, hb, hon⟩ := hwr i m o o' t ho ho' ht hd
    exact done m (hon ▸ hall e he hb)
   have hp' : pend ops (got.setIfInBounds i true) = f := by have := pend_set (ops := ops) his hz hun; omega
   have hz' : (got.setIfInBounds i true).size = ops.size := by simp [hz]
   cases hd : o.dst with
   | some d =>
    obtain ⟨v, hv, hqa⟩ := hq i o d s ho hd
    have hy : YieldsIn P ops (C s) o v a := .inl ⟨wanted_free a (hgd i o ho), fun u hu => by
     have := hqa u hu
     unfold Oper.quietAt at this ⊢
     rw [he]
     exact this⟩
    refine wpOp_of_qOp (C := C s) (K := fun a' => a' = a.put o.dst v) hu (fun a' w' hw' e => ?_) (YieldsIn.qOp ho hy rfl)
    subst e
    refine any_stores ts hsel hgd hlow hwr hone htd hti htw hq hst hQ f _ _ s _ hw' hz' hp' (fun k j hk => ?_) hsl ⟨(put_size ..).trans hag.1, (defers_put ..).trans hag.2.1, fun t ht => ?_⟩
    ·have hji : i ≠ j := fun e => by
      obtain ⟨o2, ho2, hd2⟩ := htd k j hk
      rw [← e, ho] at ho2
      cases ho2
      rw [hd] at hd2
      cases hd2
     rw [getD_set_ne true hji]
     exact hts k j hk
    ·rw [hd]
     by_cases e : d = t
     ·subst e
      have hlt : d < a.tmps.size := by
       rw [hag.1]
       exact (Array.getElem?_eq_some_iff.1 hv).1
      rw [put_get a d v hlt, hv]
     ·rw [put_other a d t v e]
      refine hag.2.2 t fun m o' ho' hd' => ?_
      have hmi : i ≠ m := fun h => by
       rw [← h, ho] at ho'
       cases ho'
       rw [hd] at hd'
       exact e (Option.some.inj hd')
      have := ht m o' ho' hd'
      rwa [getD_set_ne true hmi] at this
   | none =>
    obtain ⟨k, hk⟩ := hti i o ho hd
    have hks : k = s := by
     have h1 : ¬ k < s := fun h => by
      have := (hts k i hk).2 h
      rw [hun] at this
      cases this
     rcases Nat.eq_zero_or_pos k with h0 | h0
     ·omega
     ·obtain ⟨k', rfl⟩ : ∃ k', k = k' + 1 := ⟨k - 1, by omega⟩
      have hk' : ∃ m, ts[k']? = some m := by
       have hlt : k' + 1 < ts.length := (List.getElem?_eq_some_iff.1 hk).1
       exact ⟨_, List.getElem?_eq_getElem (by omega)⟩
      obtain ⟨m, hm⟩ := hk'
      obtain ⟨e, he', hb, hon⟩ := htw k' i m o hk hm ho
      have := (hts k' m hm).1 (done m (hon ▸ hall e he' hb))
      omega
    subst hks
    have hlt : k < ts.length := (List.getElem?_eq_some_iff.1 hk).1
    have IH : ∀ u', C (k + 1) u' → wpAny P md ops Q f (got.setIfInBounds i true) a u' := fun u' hu' => by
     refine any_stores ts hsel hgd hlow hwr hone htd hti htw hq hst hQ f _ _ (k + 1) u' hu' hz' hp' (fun k2 j hk2 => ?_) hlt ⟨hag.1, hag.2.1, fun t ht => hag.2.2 t fun m o' ho' hd' => ?_⟩
     ·by_cases e : i = j
      ·subst e
       have h1 : (got.setIfInBounds i true).getD i true = true := by simp [hz, his]
       have h2 : ¬ k2 < k := fun h => by
        have := (hts k2 i hk2).2 h
        rw [hun] at this
        cases this
       refine ⟨fun _ => ?_, fun _ => h1⟩
       rcases Nat.lt_or_ge k k2 with h3 | h3
       ·obtain ⟨k3, rfl⟩ : ∃ k3, k2 = k3 + 1 := ⟨k2 - 1, by omega⟩
        obtain ⟨m, hm⟩ : ∃ m, ts[k3]? = some m := by
         have hlt2 : k3 + 1 < ts.length := (List.getElem?_eq_some_iff.1 hk2).1
         exact ⟨_, List.getElem?_eq_getElem (by omega)⟩
        obtain ⟨e, he', hb, hon⟩ := htw k3 i m o hk2 hm ho
        have := (hts k3 m hm).1 (done m (hon ▸ hall e he' hb))
        omega
       ·omega
      ·rw [getD_set_ne true e, hts k2 j hk2]
       refine ⟨fun h => by omega, fun h => ?_⟩
       rcases Nat.lt_or_ge k2 k with h2 | h2
       ·exact h2
       ·have : k2 = k := by omega
        subst this
        rw [hk] at hk2
        exact absurd (Option.some.inj hk2) e
     ·have hmi : i ≠ m := fun h => by
       rw [← h, ho] at ho'
       cases ho'
       rw [hd] at hd'
       cases hd'
      have := ht m o' ho' hd'
      rwa [getD_set_ne true hmi] at this
    unfold wpOp
    simp only [ho]
    rw [if_pos (wanted_free a (hgd i o ho))]
    left
    unfold Oper.wp
    rw [he]
    obtain ⟨u', hC', hx⟩ := hst k i o hk ho u hu
    rcases hx with ⟨x, hx⟩ | hx
    ·rw [hx, Oper.upon_value, hd]
     exact IH u' hC'
    ·rw [hx]
     show wpAny P md ops Q f _ (a.put o.dst undef) _
     rw [hd]
     exact IH u' hC'
def storesB (md : Region.Mode) (ops : Array Oper) (ts : List Nat) : Bool :=
 Region.noSelect ops && ops.all (fun o => o.guard.isNone) &&
 (List.range ops.size).all (fun j => match ops[j]? with | some o => o.after.all fun e => !Region.binds md e || decide (e.on < j) | none => true) &&
 (List.range ops.size).all (fun j => (List.range ops.size).all fun m => match ops[j]?, ops[m]? with
  | some o, some o' => (match o'.dst with | some t => !(o.looksAt ops).contains t || o.after.any (fun e => Region.binds md e && e.on == m) | none => true) && (match o.dst with | some t => o'.dst != some t || j == m | none => true)
  | _, _ => true) &&
 ts.all (fun j => match ops[j]? with | some o => o.dst.isNone | none => false) &&
 (List.range ops.size).all (fun j => match ops[j]? with | some o => o.dst.isSome || ts.contains j | none => true) &&
 (List.range ts.length).all (fun k => match ts[k + 1]?, ts[k]? with | some j, some i => (match ops[j]? with | some o => o.after.any (fun e => Region.binds md e && e.on == i) | none => true) | _, _ => true)
def StAt (P : Program) (A : Act) (C : Nat → World → Prop) (k : Nat) : Option Oper → Prop
 | some o => ∀ u, C k u → ∃ u', C (k + 1) u' ∧ ((∃ x, (execOp A.eval o).run P u = .ok (.value x) u') ∨ (execOp A.eval o).run P u = .ok .skip u')
 | none => False
def Sts (P : Program) (A : Act) (C : Nat → World → Prop) (ops : Array Oper) : Nat → List Nat → Prop
 | _, [] => True
 | k, j :: ts => StAt P A C k ops[j]? ∧ Sts P A C ops (k + 1) ts
theorem Sts.at_ : ∀ (ts : List Nat) (k : Nat), Sts P A C ops k ts → ∀ (m : Nat) j, ts[m]? = some j → StAt P A C (k + m) ops[j]?
 | [], k, h, m, j, hm => by simp at hm
 | x :: ts, k, h, 0, j, hm => by
  simp at hm
  subst hm
  exact h.1
 | x :: ts, k, h, m + 1, j, hm => by
  have := Sts.at_ ts (k + 1) h.2 m j (by simpa using hm)
  rwa [show k + (m + 1) = k + 1 + m by omega]
theorem reg_stores {id : Nat} {a : Act} {w : World} {l : List Oper} (C : Nat → World → Prop) (ts : List Nat) (N : Nat) (hm : P.follows .mixedOrders = true) (hU0 : C 0 { w with drawn := w.drawn + 1 })
  (hB : storesB .any l.toArray ts = true) (hN : a.tmps.size = N) (hD : dstB N (l.filter fun o => o.dst.isSome) = true) (hL : laterB l.toArray (l.filter fun o => o.dst.isSome) = true)
  (h : ∃ A : Act, (∀ s (T : Type) (_ : Nonempty T) (f : T → World), (∀ u, C s u ↔ ∃ x, u = f x) → wpQuiet P l.toArray (fun w' => ∃ x, w' = f x) (fun a' => a' = A) (l.filter fun o => o.dst.isSome) a) ∧ Sts P A C l.toArray 0 ts ∧ ∀ u, C ts.length u → Q .normal A u) : (Code.region id l.toArray true).wp P Q a w := by
 obtain ⟨A, h1, h2, h3⟩ := h
 refine wp_region_any hm ?_
 simp only [storesB, Bool.and_eq_true, Array.all_eq_true_iff_forall_mem, List.all_eq_true] at hB
 obtain ⟨⟨⟨⟨⟨⟨b1, b2⟩, b3⟩, b4⟩, b5⟩, b6⟩, b7⟩ := hB
 have rng : ∀ (j : Nat) o, l.toArray[j]? = some o → j ∈ List.range l.toArray.size := fun j o ho => List.mem_range.2 (Array.getElem?_eq_some_iff.1 ho).1
 have hsel := Region.noSelect_spec b1
 have hgd : ∀ (j : Nat) o, l.toArray[j]? = some o → o.guard = none := fun j o ho => by
  have := b2 o (Array.mem_of_getElem? ho)
  simpa using this
 have hlow : ∀ (j : Nat) o, l.toArray[j]? = some o → ∀ e ∈ o.after, Region.binds .any e = true → e.on < j := fun j o ho e he hb => by
  have := b3 j (rng j o ho)
  rw [ho] at this
  simp only [Array.all_eq_true_iff_forall_mem] at this
  have := this e he
  rw [hb] at this
  simpa using this
 have anyE : ∀ (o : Oper) (m : Nat), o.after.any (fun e => Region.binds .any e && e.on == m) = true → ∃ e ∈ o.after, Region.binds .any e = true ∧ e.on = m := fun o m h => by
  rw [Array.any_eq_true] at h
  obtain ⟨i, hi, hh⟩ := h
  simp only [Bool.and_eq_true, beq_iff_eq] at hh
  exact ⟨o.after[i], Array.getElem_mem hi, hh⟩
 have hwr : ∀ (j m : Nat) o o' t, l.toArray[j]? = some o → l.toArray[m]? = some o' → t ∈ o.looksAt l.toArray → o'.dst = some t → ∃ e ∈ o.after, Region.binds .any e = true ∧ e.on = m := fun j m o o' t ho ho' ht hd => by
  have := b4 j (rng j o ho) m (rng m o' ho')
  rw [ho, ho'] at this
  simp only [Bool.and_eq_true] at this
  have := this.1
  rw [hd] at this
  simp only [Bool.or_eq_true, Bool.not_eq_true'] at this
  rcases this with h | h
  ·have h2 : (o.looksAt l.toArray).contains t = true := by simpa using ht
   rw [h2] at h; cases h
  ·exact anyE o m h
 have hone : ∀ (j m : Nat) o o' t, l.toArray[j]? = some o → l.toArray[m]? = some o' → o.dst = some t → o'.dst = some t → j = m := fun j m o o' t ho ho' hd hd' => by
  have := b4 j (rng j o ho) m (rng m o' ho')
  rw [ho, ho'] at this
  simp only [Bool.and_eq_true] at this
  have := this.2
  rw [hd, hd'] at this
  simpa using this
 have htd : ∀ (k : Nat) j, ts[k]? = some j → ∃ o, l.toArray[j]? = some o ∧ o.dst = none := fun k j hk => by
  have := b5 j (List.mem_of_getElem? hk)
  cases ho : l.toArray[j]? with
  | none => rw [ho] at this; cases this
  | some o => rw [ho] at this; exact ⟨o, rfl, by simpa using this⟩
 have hti : ∀ (j : Nat) o, l.toArray[j]? = some o → o.dst = none → ∃ k : Nat, ts[k]? = some j := fun j o ho hd => by
  have := b6 j (rng j o ho)
  rw [ho] at this
  simp only [hd, Option.isSome_none, Bool.false_or] at this
  exact List.mem_iff_getElem?.1 (by simpa using this)
 have htw : ∀ (k : Nat) j i o, ts[k + 1]? = some j → ts[k]? = some i → l.toArray[j]? = some o → ∃ e ∈ o.after, Region.binds .any e = true ∧ e.on = i := fun k j i o hk hk' ho => by
  have := b7 k (List.mem_range.2 (List.getElem?_eq_some_iff.1 hk').1)
  rw [hk, hk'] at this
  simp only [ho] at this
  exact anyE o i this
 have hsz : A.defers = a.defers ∧ A.tmps.size = a.tmps.size := quiet_defers _ _ (h1 0 {u // C 0 u} ⟨⟨_, hU0⟩⟩ Subtype.val (fun u => ⟨fun h => ⟨⟨u, h⟩, rfl⟩, fun ⟨x, e⟩ => e ▸ x.2⟩))
 have hq : ∀ (j : Nat) o d s, l.toArray[j]? = some o → o.dst = some d → ∃ v, A.tmps[d]? = some v ∧ ∀ u, C s u → o.quietAt P A (C s) u v := fun j o d s ho hd => by
  have hm' : o ∈ l.filter fun o => o.dst.isSome := List.mem_filter.2 ⟨by have := Array.mem_of_getElem? ho; simpa using this, by simp [hd]⟩
  by_cases hne : Nonempty {u // C s u}
  case neg =>
   have h := h1 0 {u // C 0 u} ⟨⟨_, hU0⟩⟩ Subtype.val (fun u => ⟨fun h => ⟨⟨u, h⟩, rfl⟩, fun ⟨x, e⟩ => e ▸ x.2⟩)
   obtain ⟨v, d', hd', hv, _⟩ := quiet_at hsel _ a h hN hD hL (fun o' ho' => by
    obtain ⟨i, hi⟩ := List.mem_iff_getElem?.1 (List.mem_filter.1 ho').1
    have hi' : l.toArray[i]? = some o' := by simpa using hi
    exact ⟨hgd i o' hi', i, hi'⟩) o hm'
   rw [hd] at hd'
   cases hd'
   exact ⟨v, hv, fun u hu => absurd ⟨⟨u, hu⟩⟩ hne⟩
  have hC : (fun w' => ∃ x : {u // C s u}, w' = x.1) = C s := by
   funext u
   exact propext ⟨fun ⟨x, e⟩ => e ▸ x.2, fun h => ⟨⟨u, h⟩, rfl⟩⟩
  have h := h1 s {u // C s u} hne Subtype.val (fun u => ⟨fun h => ⟨⟨u, h⟩, rfl⟩, fun ⟨x, e⟩ => e ▸ x.2⟩)
  rw [hC] at h
  obtain ⟨v, d', hd', hv, hqa⟩ := quiet_at hsel _ a h hN hD hL (fun o' ho' => by
   obtain ⟨i, hi⟩ := List.mem_iff_getElem?.1 (List.mem_filter.1 ho').1
   have hi' : l.toArray[i]? = some o' := by simpa using hi
   exact ⟨hgd i o' hi', i, hi'⟩) o hm'
  rw [hd] at hd'
  cases hd'
  exact ⟨v, hv, hqa⟩
 have hst : ∀ (k : Nat) j o, ts[k]? = some j → l.toArray[j]? = some o → ∀ u, C k u → ∃ u', C (k + 1) u' ∧ ((∃ x, (execOp A.eval o).run P u = .ok (.value x) u') ∨ (execOp A.eval o).run P u = .ok .skip u') := fun k j o hk ho => by
  have := Sts.at_ ts 0 h2 k j hk
  rw [ho, Nat.zero_add] at this
  exact this
 have hp0 : pend l.toArray (Array.replicate l.toArray.size false) = l.toArray.size := by
  unfold pend
  rw [List.filter_eq_self.2 fun j hj => ?_, List.length_range]
  have hj' := List.mem_range.1 hj
  have : (Array.replicate l.toArray.size false).getD j true = false := getD_in (by simpa using hj') (getD_replicate_false _ _)
  rw [this]; rfl
 refine any_stores ts hsel hgd hlow hwr hone htd hti htw hq hst h3 l.toArray.size (Array.replicate l.toArray.size false) a 0 _ hU0 (by simp) hp0 (fun k j hk => ⟨fun hg => ?_, fun h => by omega⟩) (Nat.zero_le _) ⟨hsz.2.symm, hsz.1.symm, fun t ht => ?_⟩
 ·obtain ⟨o, ho, _⟩ := htd k j hk
  have hj' := (Array.getElem?_eq_some_iff.1 ho).1
  have : (Array.replicate l.toArray.size false).getD j true = false := getD_in (by simpa using hj') (getD_replicate_false _ _)
  rw [this] at hg
  cases hg
 ·refine (last_slot _ a (h1 0 {u // C 0 u} ⟨⟨_, hU0⟩⟩ Subtype.val (fun u => ⟨fun h => ⟨⟨u, h⟩, rfl⟩, fun ⟨x, e⟩ => e ▸ x.2⟩)) fun o ho hd => ?_).symm
  obtain ⟨i, hi⟩ := List.mem_iff_getElem?.1 (List.mem_filter.1 ho).1
  have hi' : l.toArray[i]? = some o := by simpa using hi
  have hj' := (Array.getElem?_eq_some_iff.1 hi').1
  have h5 := ht i o hi' hd
  have : (Array.replicate l.toArray.size false).getD i true = false := getD_in (by simpa using hj') (getD_replicate_false _ _)
  rw [this] at h5
  cases h5
end
end Go.Proofs.YtjhcejmfiekjgaaGreat.Fx.RC
/- A class of worlds for the stores of a drawn region (RC.reg_stores): all but one block kept, that block's cells by the number of stores done. -/
namespace Go.Proofs.YtjhcejmfiekjgaaGreat.Fx
open Go.ChangeShapes Go.WideShapes Go.ChangeAt Go.RowKit
set_option linter.unusedVariables false
def Sc (g : Nat) (t : TypeId) (r : Nat → Array Value) (W : World) (s : Nat) (u : World) : Prop := But (fun x => x = g) W u ∧ Has u g t (r s)
section
variable {P : Program} {g : Nat} {t : TypeId} {r : Nat → Array Value} {W : World} {s : Nat} {T : Type} {f : T → World}
theorem Sc.start (h : Has W g t (r 0)) : Sc g t r W 0 { W with drawn := W.drawn + 1 } := ⟨(But.rfl_ _ _).draws 1, h.drawn 1⟩
theorem Sc.grow {u v : World} (h : Sc g t r W s u) (k : Made u.heap.size u v) : Sc g t r W s v := ⟨h.1.then_ (Made.but k), h.2.stays k h.2.here⟩
theorem scR (hf : ∀ u, Sc g t r W s u ↔ ∃ x : T, u = f x) {p : Addr} {u : Value} (k : W.cell? p = some u) (hp : ¬ p.block = g) (x : T) : (f x).cell? p = some u := ((hf _).2 ⟨x, rfl⟩).1.cell k hp
theorem scO (hf : ∀ u, Sc g t r W s u ↔ ∃ x : T, u = f x) (i : Nat) {u : Value} (hr : (r s)[i]? = some u) (x : T) : (f x).cell? ⟨g, i, none⟩ = some u := by
 rw [((hf _).2 ⟨x, rfl⟩).2.at_]; exact hr
theorem scH (hf : ∀ u, Sc g t r W s u ↔ ∃ x : T, u = f x) {g' : Nat} {t' : TypeId} {cs : Array Value} (k : Has W g' t' cs) (hp : ¬ g' = g) : ∀ u, (∃ x, u = f x) → Has u g' t' cs := fun u hu => k.but ((hf u).2 hu).1 hp
theorem scM {k : Nat} {args : Array Value} {v : Value} {x : T} (hf : ∀ u, Sc g t r W s u ↔ ∃ x : T, u = f x) (hc : Calls P k args (f x) fun e w' => e = .returned v ∧ Made (f x).heap.size (f x) w') : Calls P k args (f x) fun e w'' => e = .returned v ∧ ∃ m, w'' = f m :=
 hc.mono fun _ _ ⟨he, hw⟩ => ⟨he, (hf _).1 (((hf _).2 ⟨x, rfl⟩).grow hw)⟩
theorem quiet_load_row {ops : Array Oper} {C : World → Prop} {K : Act → Prop} {rest : List Oper} {o : Oper} {a : Act} (hw : o.guard = none) (ty : TypeId) (x : Operand) (ho : o.op = .load ty x)
  (b : Nat) (hx : a.eval x = .pointer (some ⟨b, 0, none⟩)) (t' : TypeId) (cs : Array Value) (d : TypeDesc) (hg : ∀ u, C u → Has u b t' cs)
  (hu : P.underlying ty = some d) (hd : (match d with | .struct _ | .array _ _ => true | _ => false) = true) (hi : (P.info? ty).map (·.size) = some cs.size)
  (h : wpQuiet P ops C K rest (a.put o.dst (.agg cs))) : wpQuiet P ops C K (o :: rest) a := by
 show (if Region.wanted o (yielded ops a.tmps) then o.quiet P a C (wpQuiet P ops C K rest) else _)
 rw [if_pos (RC.wanted_free a hw)]
 refine ⟨.agg cs, fun u hC => ?_, h⟩
 unfold Oper.quietAt execOp
 simp only [ho, hx, Instr.loadAt, Instr.sureAddr, Sem.run_bind, Sem.run_pure, Result.andThen_ok, run_loadVar_row u b t' ty cs (0, 0) d (hg u hC) hu hd hi]
 exact ⟨rfl, rfl⟩
end
theorem own_butX {w v : World} {base n : Nat} {t : TypeId} {size : Nat} {x : Value} {xs : List Value} {X : Nat → Prop} (h : w.ownsRow base t size x n xs) (k : But X w v) (hx : ∀ b, some b = x.ownBlock → ¬ X b) : v.ownsRow base t size x n xs := by
 obtain ⟨h1, h2⟩ := h
 refine ⟨h1, h2.imp id ?_⟩
 rintro ⟨g, cap, cur, e, hb, hh, r⟩
 exact ⟨g, cap, cur, e, hb, Has.but (t := t) (cs := cur) hh k (hx g (by rw [e]; rfl)), r⟩
def pick3 (a b c : Array Value) : Nat → Array Value
 | 0 => a
 | 1 => b
 | _ + 2 => c
theorem pick3_at {a b c : Array Value} {i : Nat} {u : Value} (h0 : a[i]? = some u) (h1 : b[i]? = some u) (h2 : c[i]? = some u) : ∀ s, (pick3 a b c s)[i]? = some u
 | 0 => h0
 | 1 => h1
 | _ + 2 => h2
theorem own_low {w : World} {B base n : Nat} {t : TypeId} {size : Nat} {x : Value} {xs : List Value} (h : w.ownsRow base t size x n xs) (hB : B ≤ base) : w.ownsRow B t size x n xs := by
 obtain ⟨h1, h2⟩ := h
 refine ⟨h1, h2.imp id ?_⟩
 rintro ⟨g, cap, cur, e, hb, r⟩
 exact ⟨g, cap, cur, e, Nat.le_trans hB hb, r⟩
end Go.Proofs.YtjhcejmfiekjgaaGreat.Fx