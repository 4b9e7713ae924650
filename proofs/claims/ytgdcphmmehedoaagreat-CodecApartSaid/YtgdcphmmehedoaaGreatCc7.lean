/- Rfl CoC CoD -/
import Derived.Test.YtgdcphmmehedoaaGreatCc5
import Derived.Test.YtgdcphmmehedoaaGreatCc6
set_option maxRecDepth 100000
set_option maxHeartbeats 64000000
/- Regions that draw their order and hold several chains of steps: quiet operations, and steps (calls, makings, stores) that go on along their chains in whatever order the edges allow. -/
namespace Go.Proofs.YtgdcphmmehedoaaGreat.Fx.RF
open Go.ChangeShapes Go.WideShapes Go.ChangeAt Go.RowKit RC
set_option linter.unusedVariables false
abbrev Cnt := Nat → Nat
abbrev Lts := Nat → Value
def upd {α : Type} (G : Nat → α) (i : Nat) (x : α) : Nat → α := fun j => if j = i then x else G j
theorem upd_same {α : Type} (G : Nat → α) (i : Nat) (x : α) : upd G i x i = x := by unfold upd; rw [if_pos rfl]
theorem upd_else {α : Type} (G : Nat → α) {i j : Nat} (x : α) (h : j ≠ i) : upd G i x j = G j := by unfold upd; rw [if_neg h]
def AG (A : Act) : List (Nat × Tmp) → Lts → Act
 | [], _ => A
 | p :: l, G => AG (A.put (some p.2) (G p.1)) l G
theorem AG_size (G : Lts) : ∀ (ls : List (Nat × Tmp)) (A : Act), (AG A ls G).tmps.size = A.tmps.size
 | [], _ => rfl
 | p :: l, A => (AG_size G l _).trans (put_size A (some p.2) _)
theorem AG_defers (G : Lts) : ∀ (ls : List (Nat × Tmp)) (A : Act), (AG A ls G).defers = A.defers
 | [], _ => rfl
 | p :: l, A => (AG_defers G l _).trans (defers_put A (some p.2) _)
theorem AG_else (G : Lts) : ∀ (ls : List (Nat × Tmp)) (A : Act) (t : Tmp), (∀ p ∈ ls, p.2 ≠ t) → (AG A ls G).tmps[t]? = A.tmps[t]?
 | [], _, _, _ => rfl
 | p :: l, A, t, h => by
  show (AG (A.put (some p.2) (G p.1)) l G).tmps[t]? = _
  rw [AG_else G l _ t (fun q hq => h q (List.mem_cons_of_mem _ hq)), put_other A p.2 t _ (h p (List.mem_cons_self ..))]
theorem AG_at (G : Lts) : ∀ (ls : List (Nat × Tmp)) (A : Act) (j : Nat) (t : Tmp), (j, t) ∈ ls → t < A.tmps.size → (∀ p ∈ ls, ∀ q ∈ ls, p.2 = q.2 → p.1 = q.1) → (AG A ls G).tmps[t]? = some (G j)
 | [], _, _, _, h, _, _ => by cases h
 | p :: l, A, j, t, h, ht, hu => by
  show (AG (A.put (some p.2) (G p.1)) l G).tmps[t]? = _
  by_cases h2 : ∃ q ∈ l, q.2 = t
  ·obtain ⟨q, hq, e⟩ := h2
   have e1 : q.1 = j := hu q (List.mem_cons_of_mem _ hq) (j, t) h e
   have hq' : (j, t) ∈ l := by rw [← e1, ← e]; exact hq
   exact AG_at G l _ j t hq' (by rw [put_size]; exact ht) fun a ha b hb => hu a (List.mem_cons_of_mem _ ha) b (List.mem_cons_of_mem _ hb)
  ·rw [AG_else G l _ t fun q hq e => h2 ⟨q, hq, e⟩]
   rcases List.mem_cons.1 h with e | h
   ·rw [← e]; exact put_get A t _ ht
   ·exact absurd ⟨(j, t), h, rfl⟩ h2
def lettered (ls : List (Nat × Tmp)) (j : Nat) : Bool := ls.any fun p => p.1 == j
def updI (b : Bool) (G : Lts) (j : Nat) (x : Value) : Lts := if b then upd G j x else G
def opAt (chs : List (List Nat)) (c k : Nat) : Option Nat := (chs.getD c [])[k]?
def full (chs : List (List Nat)) : Cnt := fun c => (chs.getD c []).length
def waits (md : Region.Mode) (o : Oper) (m : Nat) : Bool := o.after.any fun e => Region.binds md e && e.on == m
theorem waits_spec {md : Region.Mode} {o : Oper} {m : Nat} (h : waits md o m = true) : ∃ e ∈ o.after, Region.binds md e = true ∧ e.on = m := by
 unfold waits at h
 rw [Array.any_eq_true] at h
 obtain ⟨i, hi, hh⟩ := h
 simp only [Bool.and_eq_true, beq_iff_eq] at hh
 exact ⟨o.after[i], Array.getElem_mem hi, hh⟩
section
variable {P : Program} {ops : Array Oper} {md : Region.Mode} {Q : Exit → Act → World → Prop} {A : Act} {C : Cnt → Lts → World → Prop} {chs : List (List Nat)} {ls : List (Nat × Tmp)}
def Ag (ops : Array Oper) (A : Act) (ls : List (Nat × Tmp)) (G : Lts) (got : Array Bool) (a : Act) : Prop :=
 a.tmps.size = A.tmps.size ∧ a.defers = A.defers ∧ ∀ t, (∀ (j : Nat) o, ops[j]? = some o → o.dst = some t → got.getD j true = true) → a.tmps[t]? = (AG A ls G).tmps[t]?
def Done (A : Act) (C : Cnt → Lts → World → Prop) (ls : List (Nat × Tmp)) (s : Cnt) (G : Lts) (c k j : Nat) (o : Oper) (x : Value) (u : World) : Prop :=
 C (upd s c (k + 1)) (updI (lettered ls j) G j x) u ∧ (lettered ls j = true ∨ ∀ d, o.dst = some d → A.tmps[d]? = some x)
def StepTo (P : Program) (A : Act) (C : Cnt → Lts → World → Prop) (ls : List (Nat × Tmp)) (s : Cnt) (G : Lts) (c k j : Nat) (o : Oper) : Result Next → Prop
 | .ok (.value x) u => Done A C ls s G c k j o x u
 | .ok .skip u => o.dst = none ∧ C (upd s c (k + 1)) (updI (lettered ls j) G j undef) u
 | .ok (.enter f args) u => Calls P f args u fun z u' => ∃ x, z = .returned x ∧ Done A C ls s G c k j o x u'
 | _ => False
def StepAt (P : Program) (md : Region.Mode) (A : Act) (C : Cnt → Lts → World → Prop) (chs : List (List Nat)) (ls : List (Nat × Tmp)) (c k j : Nat) (o : Oper) : Prop :=
 ∀ s G u, C s G u → s c = k → (∀ c' k' m, opAt chs c' k' = some m → waits md o m = true → k' < s c') → StepTo P A C ls s G c k j o ((execOp (AG A ls G).eval o).run P u)
theorem any_flow (hsel : ∀ (j : Nat) (o : Oper) cs b, ops[j]? = some o → o.op ≠ .select cs b) (hgd : ∀ (j : Nat) o, ops[j]? = some o → o.guard = none)
  (hlow : ∀ (j : Nat) o, ops[j]? = some o → ∀ e ∈ o.after, Region.binds md e = true → e.on < j)
  (hwr : ∀ (j m : Nat) o o' t, ops[j]? = some o → ops[m]? = some o' → t ∈ o.looksAt ops → o'.dst = some t → ∃ e ∈ o.after, Region.binds md e = true ∧ e.on = m)
  (hone : ∀ (j m : Nat) o o' t, ops[j]? = some o → ops[m]? = some o' → o.dst = some t → o'.dst = some t → j = m)
  (hls : ∀ p ∈ ls, ∃ o, ops[p.1]? = some o ∧ o.dst = some p.2 ∧ p.2 < A.tmps.size ∧ ∃ c k, opAt chs c k = some p.1)
  (hql : ∀ (j : Nat) o t, ops[j]? = some o → (∀ c k, opAt chs c k ≠ some j) → t ∈ o.looksAt ops → ∀ p ∈ ls, p.2 ≠ t)
  (hqd : ∀ (j : Nat) o, ops[j]? = some o → (∀ c k, opAt chs c k ≠ some j) → o.dst ≠ none)
  (huq : ∀ c k c' k' j, opAt chs c k = some j → opAt chs c' k' = some j → c = c' ∧ k = k')
  (htd : ∀ c k j, opAt chs c k = some j → ∃ o, ops[j]? = some o)
  (htw : ∀ c k j i o, opAt chs c (k + 1) = some j → opAt chs c k = some i → ops[j]? = some o → ∃ e ∈ o.after, Region.binds md e = true ∧ e.on = i)
  (hq : ∀ (j : Nat) o d s G, ops[j]? = some o → (∀ c k, opAt chs c k ≠ some j) → o.dst = some d → ∃ v, A.tmps[d]? = some v ∧ ∀ u, C s G u → o.quietAt P A (C s G) u v)
  (hst : ∀ c k j o, opAt chs c k = some j → ops[j]? = some o → StepAt P md A C chs ls c k j o)
  (hQ : ∀ G u, C (full chs) G u → Q .normal (AG A ls G) u) :
  ∀ (f : Nat) (got : Array Bool) (a : Act) (s : Cnt) (G : Lts) (u : World), C s G u → got.size = ops.size → pend ops got = f → (∀ c k j, opAt chs c k = some j → (got.getD j true = true ↔ k < s c)) → (∀ c, s c ≤ full chs c) → Ag ops A ls G got a → wpAny P md ops Q f got a u
 | 0, got, a, s, G, u, hu, hz, hp, hts, hsl, hag => by
  have all : ∀ j, j < ops.size → got.getD j true = true := fun j hj => pend_zero hp hj
  have hs : s = full chs := by
   funext c
   rcases Nat.lt_or_ge (s c) (full chs c) with h | h
   ·have hk : opAt chs c (s c) = some (chs.getD c [])[s c] := List.getElem?_eq_getElem h
    obtain ⟨o, ho⟩ := htd c _ _ hk
    have := (hts c _ _ hk).1 (all _ (Array.getElem?_eq_some_iff.1 ho).1)
    omega
   ·have := hsl c; omega
  have ea : a = AG A ls G := by
   obtain ⟨h1, h2, h3⟩ := hag
   have h4 := AG_size G ls A
   have h5 := AG_defers G ls A
   generalize AG A ls G = B at *
   cases a; cases B
   simp only [] at h1 h2 h3 h4 h5
   subst h2
   subst h5
   congr 1
   refine Array.ext_getElem? fun t => h3 t fun j o ho _ => all j (Array.getElem?_eq_some_iff.1 ho).1
  refine ⟨?_, by rw [ea]; exact hQ G _ (hs ▸ hu)⟩
  refine List.eq_nil_iff_forall_not_mem.2 fun j hj => ?_
  obtain ⟨h1, o, ho, _⟩ := mem_ready.1 hj
  rw [all j (Array.getElem?_eq_some_iff.1 ho).1] at h1
  cases h1
 | f + 1, got, a, s, G, u, hu, hz, hp, hts, hsl, hag => by
  refine ⟨fun hr => ?_, fun i hi => ?_⟩
  ·exfalso
   have hne : ∃ j, j < ops.size ∧ got.getD j true = false := by
    refine Classical.byContradiction fun hn => ?_
    have : pend ops got = 0 := by
     unfold pend
     rw [List.length_eq_zero_iff, List.filter_eq_nil_iff]
     intro j hj
     cases hg : got.getD j true with
     | true => simp
     | false => exact absurd ⟨j, List.mem_range.1 hj, hg⟩ hn
    omega
   have least : ∀ n j, j < n → j < ops.size → got.getD j true = false → ∃ m, m < ops.size ∧ got.getD m true = false ∧ ∀ x, x < m → got.getD x true = true := by
    intro n
    induction n with
    | zero => intro j h; omega
    | succ n ih =>
     intro j hj hjs hg
     by_cases h : ∃ x, x < j ∧ got.getD x true = false
     ·obtain ⟨x, hx, hgx⟩ := h
      exact ih x (by omega) (by omega) hgx
     ·refine ⟨j, hjs, hg, fun x hx => ?_⟩
      cases hgx : got.getD x true with
      | true => rfl
      | false => exact absurd ⟨x, hx, hgx⟩ h
   obtain ⟨j, hj, hg⟩ := hne
   obtain ⟨m, hm, hgm, hbelow⟩ := least (j + 1) j (by omega) hj hg
   have hom : ops[m]? = some ops[m] := Array.getElem?_eq_getElem hm
   have : m ∈ Region.ready md ops got := mem_ready.2 ⟨hgm, _, hom, fun e he hb => by
    have h1 := hlow m _ hom e he hb
    have h2 := hbelow _ h1
    have h3 : e.on < got.size := by rw [hz]; omega
    simpa [h3] using h2⟩
   rw [hr] at this
   cases this
  ·obtain ⟨hun, o, ho, hall⟩ := mem_ready.1 hi
   have his : i < ops.size := (Array.getElem?_eq_some_iff.1 ho).1
   have done : ∀ m, got.getD m false = true → got.getD m true = true := fun m h => by
    cases h2 : got.getD m true with
    | true => rfl
    | false => rw [getD_both h2] at h; cases h
   have he : execOp a.eval o = execOp (AG A ls G).eval o := exec_slot (ops := ops) (hsel i o · · ho) fun t ht => hag.2.2 t fun m o' ho' hd => by
    obtain ⟨e, he, hb, hon⟩ := hwr i m o o' t ho ho' ht hd
    exact done m (hon ▸ hall e he hb)
   have hp' : pend ops (got.setIfInBounds i true) = f := by have := pend_set (ops := ops) his hz hun; omega
   have hz' : (got.setIfInBounds i true).size = ops.size := by simp [hz]
   have hwt : ∀ m, waits md o m = true → got.getD m true = true := fun m h => by
    obtain ⟨e, he', hb, hon⟩ := waits_spec h
    exact done m (hon ▸ hall e he' hb)
   by_cases hch : ∃ c k, opAt chs c k = some i
   ·obtain ⟨c, k, hk⟩ := hch
    have hks : s c = k := by
     have h1 : ¬ k < s c := fun h => by
      have := (hts c k i hk).2 h
      rw [hun] at this
      cases this
     rcases Nat.eq_zero_or_pos k with h0 | h0
     ·omega
     ·obtain ⟨k', rfl⟩ : ∃ k', k = k' + 1 := ⟨k - 1, by omega⟩
      have hk' : ∃ m, opAt chs c k' = some m := by
       have hlt : k' + 1 < (chs.getD c []).length := (List.getElem?_eq_some_iff.1 hk).1
       exact ⟨_, List.getElem?_eq_getElem (by omega)⟩
      obtain ⟨m, hm⟩ := hk'
      obtain ⟨e, he', hb, hon⟩ := htw c k' i m o hk hm ho
      have := (hts c k' m hm).1 (done m (hon ▸ hall e he' hb))
      omega
    have hlt : k < full chs c := (List.getElem?_eq_some_iff.1 hk).1
    -- what comes behind the step
    have IH : ∀ x u', C (upd s c (k + 1)) (updI (lettered ls i) G i x) u' → (lettered ls i = true ∨ ∀ d, o.dst = some d → A.tmps[d]? = some x) → wpAny P md ops Q f (got.setIfInBounds i true) (a.put o.dst x) u' := fun x u' hu' hx => by
     refine any_flow hsel hgd hlow hwr hone hls hql hqd huq htd htw hq hst hQ f _ _ (upd s c (k + 1)) (updI (lettered ls i) G i x) u' hu' hz' hp' (fun c2 k2 j hk2 => ?_) (fun c2 => ?_) ⟨(put_size ..).trans hag.1, (defers_put ..).trans hag.2.1, fun t ht => ?_⟩
     ·by_cases e : i = j
      ·subst e
       obtain ⟨rfl, rfl⟩ := huq c k c2 k2 i hk hk2
       have h1 : (got.setIfInBounds i true).getD i true = true := by simp [hz, his]
       rw [upd_same]
       exact ⟨fun _ => by omega, fun _ => h1⟩
      ·rw [getD_set_ne true e, hts c2 k2 j hk2]
       by_cases ec : c2 = c
       ·subst ec
        rw [upd_same]
        refine ⟨fun h => by omega, fun h => ?_⟩
        rcases Nat.lt_or_ge k2 k with h2 | h2
        ·omega
        ·have : k2 = k := by omega
         subst this
         rw [hk] at hk2
         exact absurd (Option.some.inj hk2) e
       ·rw [upd_else _ _ ec]
     ·by_cases ec : c2 = c
      ·subst ec; rw [upd_same]; omega
      ·rw [upd_else _ _ ec]; exact hsl c2
     ·by_cases hd : o.dst = some t
      ·rw [hd]
       rcases hx with hx | hx
       ·-- its letter
        unfold lettered at hx
        rw [List.any_eq_true] at hx
        obtain ⟨p, hp, he2⟩ := hx
        have he2 : p.1 = i := by simpa using he2
        obtain ⟨o2, ho2, hd2, hs2, _⟩ := hls p hp
        rw [he2, ho] at ho2
        cases ho2
        rw [hd] at hd2
        have e3 : p = (i, t) := Prod.ext he2 (Option.some.inj hd2).symm
        have hl : lettered ls i = true := List.any_eq_true.2 ⟨p, hp, by simpa using he2⟩
        rw [put_get a t x (by rw [hag.1, Option.some.inj hd2]; exact hs2), AG_at _ ls A i t (e3 ▸ hp) (by rw [Option.some.inj hd2]; exact hs2) (fun p' hp' q' hq' e => by
         obtain ⟨o3, ho3, hd3, _⟩ := hls p' hp'
         obtain ⟨o4, ho4, hd4, _⟩ := hls q' hq'
         exact hone p'.1 q'.1 o3 o4 p'.2 ho3 ho4 hd3 (by rw [e]; exact hd4))]
        unfold updI
        rw [hl, if_pos rfl, upd_same]
       ·by_cases hl : lettered ls i = true
        ·unfold lettered at hl
         rw [List.any_eq_true] at hl
         obtain ⟨p, hp, he2⟩ := hl
         have he2 : p.1 = i := by simpa using he2
         obtain ⟨o2, ho2, hd2, hs2, _⟩ := hls p hp
         rw [he2, ho] at ho2
         cases ho2
         rw [hd] at hd2
         have e3 : p = (i, t) := Prod.ext he2 (Option.some.inj hd2).symm
         have hl : lettered ls i = true := List.any_eq_true.2 ⟨p, hp, by simpa using he2⟩
         rw [put_get a t x (by rw [hag.1, Option.some.inj hd2]; exact hs2), AG_at _ ls A i t (e3 ▸ hp) (by rw [Option.some.inj hd2]; exact hs2) (fun p' hp' q' hq' e => by
          obtain ⟨o3, ho3, hd3, _⟩ := hls p' hp'
          obtain ⟨o4, ho4, hd4, _⟩ := hls q' hq'
          exact hone p'.1 q'.1 o3 o4 p'.2 ho3 ho4 hd3 (by rw [e]; exact hd4))]
         unfold updI
         rw [hl, if_pos rfl, upd_same]
        ·have hAt := hx t hd
         rw [put_get a t x (by rw [hag.1]; exact (Array.getElem?_eq_some_iff.1 hAt).1), AG_else _ ls A t fun p hp e => ?_, hAt]
         obtain ⟨o2, ho2, hd2, _⟩ := hls p hp
         rw [e] at hd2
         exact hl (List.any_eq_true.2 ⟨p, hp, by simpa using hone p.1 i o2 o t ho2 ho hd2 hd⟩)
      ·have h1 : (a.put o.dst x).tmps[t]? = a.tmps[t]? := by
        cases hd' : o.dst with
        | none => rfl
        | some d => exact put_other a d t x (fun e => hd (by rw [hd', e]))
       have h2 : a.tmps[t]? = (AG A ls G).tmps[t]? := hag.2.2 t fun m o' ho' hd' => by
        have hmi : i ≠ m := fun h => by
         rw [← h, ho] at ho'
         cases ho'
         exact hd hd'
        have := ht m o' ho' hd'
        rwa [getD_set_ne true hmi] at this
       rw [h1, h2]
       -- another letter does not matter
       by_cases hp : ∃ p ∈ ls, p.2 = t
       ·obtain ⟨p, hp, ep⟩ := hp
        obtain ⟨o2, ho2, hd2, hs2, _⟩ := hls p hp
        have uq : ∀ p' ∈ ls, ∀ q' ∈ ls, p'.2 = q'.2 → p'.1 = q'.1 := fun p' hp' q' hq' e => by
         obtain ⟨o3, ho3, hd3, _⟩ := hls p' hp'
         obtain ⟨o4, ho4, hd4, _⟩ := hls q' hq'
         exact hone p'.1 q'.1 o3 o4 p'.2 ho3 ho4 hd3 (by rw [e]; exact hd4)
        have hp2 : (p.1, t) ∈ ls := by rw [← ep]; exact hp
        rw [AG_at G ls A p.1 t hp2 (by rw [← ep]; exact hs2) uq, AG_at _ ls A p.1 t hp2 (by rw [← ep]; exact hs2) uq]
        have hne : p.1 ≠ i := fun e => by
         rw [e, ho] at ho2
         cases ho2
         rw [ep] at hd2
         exact hd hd2
        unfold updI
        split
        ·rw [upd_else _ _ hne]
        ·rfl
       ·rw [AG_else _ ls A t (fun p hp' e => hp ⟨p, hp', e⟩), AG_else _ ls A t (fun p hp' e => hp ⟨p, hp', e⟩)]
    unfold wpOp
    simp only [ho]
    rw [if_pos (wanted_free a (hgd i o ho))]
    left
    unfold Oper.wp
    rw [he]
    have hr := hst c k i o hk ho s G u hu hks fun c' k' m hm hw => (hts c' k' m hm).1 (hwt m hw)
    generalize (execOp (AG A ls G).eval o).run P u = r at hr
    cases r with
    | halt x w' => exact hr.elim
    | ok x w' =>
     cases x with
     | value x =>
      rw [Oper.upon_value]
      exact IH x w' hr.1 hr.2
     | skip =>
      show wpAny P md ops Q f _ (a.put o.dst undef) _
      exact IH undef w' hr.2 (.inr fun d e => by rw [hr.1] at e; cases e)
     | enter fn args =>
      rw [Oper.upon_enter]
      refine Calls.mono hr fun z u'' ⟨x, hz3, hc⟩ => ?_
      subst hz3
      simp only []
      exact IH x u'' hc.1 hc.2
     | _ => exact hr.elim
   ·have hqi : ∀ c k, opAt chs c k ≠ some i := fun c k e => hch ⟨c, k, e⟩
    cases hd : o.dst with
    | none => exact absurd hd (hqd i o ho hqi)
    | some d =>
     obtain ⟨v, hv, hqa⟩ := hq i o d s G ho hqi hd
     have he0 : execOp a.eval o = execOp A.eval o := he.trans (exec_slot (ops := ops) (hsel i o · · ho) fun t ht => AG_else G ls A t (hql i o t ho hqi ht))
     have hy : YieldsIn P ops (C s G) o v a := .inl ⟨wanted_free a (hgd i o ho), fun u hu => by
      have := hqa u hu
      unfold Oper.quietAt at this ⊢
      rw [he0]
      exact this⟩
     refine wpOp_of_qOp (C := C s G) (K := fun a' => a' = a.put o.dst v) hu (fun a' w' hw' e => ?_) (YieldsIn.qOp ho hy rfl)
     subst e
     refine any_flow hsel hgd hlow hwr hone hls hql hqd huq htd htw hq hst hQ f _ _ s G _ hw' hz' hp' (fun c k j hk => ?_) hsl ⟨(put_size ..).trans hag.1, (defers_put ..).trans hag.2.1, fun t ht => ?_⟩
     ·have hji : i ≠ j := fun e => hqi c k (e ▸ hk)
      rw [getD_set_ne true hji]
      exact hts c k j hk
     ·rw [hd]
      by_cases e : d = t
      ·subst e
       have hlt : d < a.tmps.size := by
        rw [hag.1]
        exact (Array.getElem?_eq_some_iff.1 hv).1
       rw [put_get a d v hlt, AG_else G ls A d fun p hp e => ?_, hv]
       obtain ⟨o2, ho2, hd2, _, c, k, hk⟩ := hls p hp
       have : p.1 = i := hone p.1 i o2 o d ho2 ho (e ▸ hd2) hd
       exact hqi c k (this ▸ hk)
      ·rw [put_other a d t v e]
       refine hag.2.2 t fun m o' ho' hd' => ?_
       have hmi : i ≠ m := fun h => by
        rw [← h, ho] at ho'
        cases ho'
        rw [hd] at hd'
        exact e (Option.some.inj hd')
       have := ht m o' ho' hd'
       rwa [getD_set_ne true hmi] at this
def inCh (chs : List (List Nat)) (j : Nat) : Bool := chs.any fun l => l.contains j
theorem inCh_iff (j : Nat) : inCh chs j = true ↔ ∃ c k, opAt chs c k = some j := by
 unfold inCh
 rw [List.any_eq_true]
 constructor
 ·rintro ⟨l, hl, hj⟩
  obtain ⟨c, hc⟩ := List.mem_iff_getElem?.1 hl
  obtain ⟨k, hk⟩ := List.mem_iff_getElem?.1 (show j ∈ l by simpa using hj)
  refine ⟨c, k, ?_⟩
  unfold opAt
  rw [List.getD_eq_getElem?_getD, hc]
  exact hk
 ·rintro ⟨c, k, h⟩
  unfold opAt at h
  rw [List.getD_eq_getElem?_getD] at h
  cases e : chs[c]? with
  | none => rw [e] at h; simp at h
  | some l =>
   rw [e] at h
   exact ⟨l, List.mem_of_getElem? e, by simpa using List.mem_of_getElem? h⟩
theorem opAt_lt {c k j : Nat} (h : opAt chs c k = some j) : c < chs.length ∧ k < (chs.getD c []).length := by
 unfold opAt at h
 refine ⟨?_, (List.getElem?_eq_some_iff.1 h).1⟩
 rcases Nat.lt_or_ge c chs.length with h1 | h1
 ·exact h1
 ·rw [List.getD_eq_getElem?_getD, List.getElem?_eq_none h1] at h
  simp at h
def flowB (md : Region.Mode) (ops : Array Oper) (chs : List (List Nat)) (ls : List (Nat × Tmp)) (qs : List Nat) (fs : List Tmp) (N : Nat) : Bool :=
 Region.noSelect ops && ops.all (fun o => o.guard.isNone) &&
 (List.range ops.size).all (fun j => match ops[j]? with | some o => o.after.all fun e => !Region.binds md e || decide (e.on < j) | none => true) &&
 (List.range ops.size).all (fun j => (List.range ops.size).all fun m => match ops[j]?, ops[m]? with
  | some o, some o' => (match o'.dst with | some t => !(o.looksAt ops).contains t || waits md o m | none => true) && (match o.dst with | some t => o'.dst != some t || j == m | none => true)
  | _, _ => true) &&
 ls.all (fun p => decide (p.2 < N) && inCh chs p.1 && (match ops[p.1]? with | some o => o.dst == some p.2 | none => false)) &&
 (List.range ops.size).all (fun j => inCh chs j || (qs.contains j && (match ops[j]? with | some o => o.dst.isSome && ls.all (fun p => !(o.looksAt ops).contains p.2) | none => true))) &&
 qs.all (fun j => !inCh chs j) &&
 (List.range chs.length).all (fun c => (List.range (chs.getD c []).length).all fun k => (List.range chs.length).all fun c' => (List.range (chs.getD c' []).length).all fun k' => opAt chs c k != opAt chs c' k' || (c == c' && k == k')) &&
 (List.range chs.length).all (fun c => (List.range (chs.getD c []).length).all fun k => match opAt chs c k with | some j => decide (j < ops.size) | none => true) &&
 (List.range chs.length).all (fun c => (List.range (chs.getD c []).length).all fun k => match opAt chs c (k + 1), opAt chs c k with | some j, some i => (match ops[j]? with | some o => waits md o i | none => true) | _, _ => true) &&
 fs.all (fun t => ops.any fun o => o.dst == some t)
def putF (a : Act) : List (Tmp × Value) → Act
 | [] => a
 | p :: l => putF (a.put (some p.1) p.2) l
theorem putF_size : ∀ (l : List (Tmp × Value)) (a : Act), (putF a l).tmps.size = a.tmps.size
 | [], _ => rfl
 | p :: l, a => (putF_size l _).trans (put_size a (some p.1) _)
theorem putF_defers : ∀ (l : List (Tmp × Value)) (a : Act), (putF a l).defers = a.defers
 | [], _ => rfl
 | p :: l, a => (putF_defers l _).trans (defers_put a (some p.1) _)
theorem putF_else : ∀ (l : List (Tmp × Value)) (a : Act) (t : Tmp), (∀ p ∈ l, p.1 ≠ t) → (putF a l).tmps[t]? = a.tmps[t]?
 | [], _, _, _ => rfl
 | p :: l, a, t, h => by
  show (putF (a.put (some p.1) p.2) l).tmps[t]? = _
  rw [putF_else l _ t (fun q hq => h q (List.mem_cons_of_mem _ hq)), put_other a p.1 t _ (h p (List.mem_cons_self ..))]
def StepsC (P : Program) (md : Region.Mode) (A : Act) (C : Cnt → Lts → World → Prop) (ops : Array Oper) (chs : List (List Nat)) (ls : List (Nat × Tmp)) (c : Nat) : Nat → List Nat → Prop
 | _, [] => True
 | k, j :: l => (match ops[j]? with | some o => StepAt P md A C chs ls c k j o | none => False) ∧ StepsC P md A C ops chs ls c (k + 1) l
def StepsA (P : Program) (md : Region.Mode) (A : Act) (C : Cnt → Lts → World → Prop) (ops : Array Oper) (chs : List (List Nat)) (ls : List (Nat × Tmp)) : Nat → List (List Nat) → Prop
 | _, [] => True
 | c, l :: r => StepsC P md A C ops chs ls c 0 l ∧ StepsA P md A C ops chs ls (c + 1) r
theorem StepsC.at_ {c : Nat} : ∀ (l : List Nat) (k : Nat), StepsC P md A C ops chs ls c k l → ∀ (m : Nat) j o, l[m]? = some j → ops[j]? = some o → StepAt P md A C chs ls c (k + m) j o
 | [], k, _, m, j, o, hm, _ => by simp at hm
 | x :: l, k, h, 0, j, o, hm, ho => by
  simp at hm
  subst hm
  have := h.1
  rw [ho] at this
  exact this
 | x :: l, k, h, m + 1, j, o, hm, ho => by
  have := StepsC.at_ l (k + 1) h.2 m j o (by simpa using hm) ho
  rwa [show k + (m + 1) = k + 1 + m by omega]
theorem StepsA.at_ : ∀ (r : List (List Nat)) (c : Nat), StepsA P md A C ops chs ls c r → ∀ (n : Nat) l, r[n]? = some l → StepsC P md A C ops chs ls (c + n) 0 l
 | [], c, _, n, l, hn => by simp at hn
 | x :: r, c, h, 0, l, hn => by
  simp at hn
  subst hn
  exact h.1
 | x :: r, c, h, n + 1, l, hn => by
  have := StepsA.at_ r (c + 1) h.2 n l (by simpa using hn)
  rwa [show c + (n + 1) = c + 1 + n by omega]
theorem reg_flow {id : Nat} {a : Act} {w : World} {l : List Oper} (C : Cnt → Lts → World → Prop) (chs : List (List Nat)) (ls : List (Nat × Tmp)) (qs : List Nat) (fx : List (Tmp × Value)) (N : Nat) (hm : P.follows .mixedOrders = true) (hC0 : C (fun _ => 0) (fun _ => undef) { w with drawn := w.drawn + 1 })
  (hB : flowB .any l.toArray chs ls qs (fx.map Prod.fst) N = true) (hN : a.tmps.size = N) (hD : dstB N (qs.filterMap fun i => l[i]?) = true) (hL : laterB l.toArray (qs.filterMap fun i => l[i]?) = true)
  (h : ∃ A : Act, (∀ s G (T : Type) (_ : Nonempty T) (f : T → World), (∀ u, C s G u ↔ ∃ x, u = f x) → wpQuiet P l.toArray (fun w' => ∃ x, w' = f x) (fun a' => a' = A) (qs.filterMap fun i => l[i]?) (putF a fx)) ∧ StepsA P .any A C l.toArray chs ls 0 chs ∧ ∀ G u, C (full chs) G u → Q .normal (AG A ls G) u) : (Code.region id l.toArray true).wp P Q a w := by
 obtain ⟨A, h1, h2, h3⟩ := h
 refine wp_region_any hm ?_
 simp only [flowB, Bool.and_eq_true, Array.all_eq_true_iff_forall_mem, List.all_eq_true] at hB
 obtain ⟨⟨⟨⟨⟨⟨⟨⟨⟨⟨b1, b2⟩, b3⟩, b4⟩, b5⟩, b6⟩, b7⟩, b8⟩, b9⟩, b10⟩, b11⟩ := hB
 have rng : ∀ (j : Nat) o, l.toArray[j]? = some o → j ∈ List.range l.toArray.size := fun j o ho => List.mem_range.2 (Array.getElem?_eq_some_iff.1 ho).1
 have hsel := Region.noSelect_spec b1
 have hgd : ∀ (j : Nat) o, l.toArray[j]? = some o → o.guard = none := fun j o ho => by
  have := b2 o (Array.mem_of_getElem? ho)
  simpa using this
 have hlow : ∀ (j : Nat) o, l.toArray[j]? = some o → ∀ e ∈ o.after, Region.binds .any e = true → e.on < j := fun j o ho e he hb => by
  have := b3 j (rng j o ho)
  rw [ho] at this
  simp only [Array.all_eq_true_iff_forall_mem] at this
  have := this e he
  rw [hb] at this
  simpa using this
 have hwr : ∀ (j m : Nat) o o' t, l.toArray[j]? = some o → l.toArray[m]? = some o' → t ∈ o.looksAt l.toArray → o'.dst = some t → ∃ e ∈ o.after, Region.binds .any e = true ∧ e.on = m := fun j m o o' t ho ho' ht hd => by
  have := b4 j (rng j o ho) m (rng m o' ho')
  rw [ho, ho'] at this
  simp only [Bool.and_eq_true] at this
  have := this.1
  rw [hd] at this
  simp only [Bool.or_eq_true, Bool.not_eq_true'] at this
  rcases this with h | h
  ·have h2 : (o.looksAt l.toArray).contains t = true := by simpa using ht
   rw [h2] at h; cases h
  ·exact waits_spec h
 have hone : ∀ (j m : Nat) o o' t, l.toArray[j]? = some o → l.toArray[m]? = some o' → o.dst = some t → o'.dst = some t → j = m := fun j m o o' t ho ho' hd hd' => by
  have := b4 j (rng j o ho) m (rng m o' ho')
  rw [ho, ho'] at this
  simp only [Bool.and_eq_true] at this
  have := this.2
  rw [hd, hd'] at this
  simpa using this
 have hA0 := h1 (fun _ => 0) (fun _ => undef) {u // C (fun _ => 0) (fun _ => undef) u} ⟨⟨_, hC0⟩⟩ Subtype.val (fun u => ⟨fun h => ⟨⟨u, h⟩, rfl⟩, fun ⟨x, e⟩ => e ▸ x.2⟩)
 have hsz := quiet_defers _ _ hA0
 rw [putF_size, putF_defers] at hsz
 have hls : ∀ p ∈ ls, ∃ o, l.toArray[p.1]? = some o ∧ o.dst = some p.2 ∧ p.2 < A.tmps.size ∧ ∃ c k, opAt chs c k = some p.1 := fun p hp => by
  have := b5 p hp
  cases ho : l.toArray[p.1]? with
  | none => rw [ho] at this; simp at this
  | some o =>
   rw [ho] at this
   simp only [decide_eq_true_eq, beq_iff_eq] at this
   exact ⟨o, rfl, this.2, by rw [hsz.2, hN]; exact this.1.1, (inCh_iff _).1 this.1.2⟩
 have notCh : ∀ j, (∀ c k, opAt chs c k ≠ some j) → inCh chs j = false := fun j h => by
  cases e : inCh chs j with
  | false => rfl
  | true => obtain ⟨c, k, hk⟩ := (inCh_iff j).1 e; exact absurd hk (h c k)
 have hb6 : ∀ (j : Nat) o, l.toArray[j]? = some o → (∀ c k, opAt chs c k ≠ some j) → j ∈ qs ∧ o.dst.isSome = true ∧ ∀ p ∈ ls, (o.looksAt l.toArray).contains p.2 = false := fun j o ho hc => by
  have := b6 j (rng j o ho)
  rw [notCh j hc, ho] at this
  simp only [Bool.false_or, Bool.and_eq_true, List.all_eq_true, Bool.not_eq_true'] at this
  exact ⟨by simpa using this.1, this.2.1, this.2.2⟩
 have hql : ∀ (j : Nat) o t, l.toArray[j]? = some o → (∀ c k, opAt chs c k ≠ some j) → t ∈ o.looksAt l.toArray → ∀ p ∈ ls, p.2 ≠ t := fun j o t ho hc ht p hp e => by
  have := (hb6 j o ho hc).2.2 p hp
  rw [e] at this
  have h2 : (o.looksAt l.toArray).contains t = true := by simpa using ht
  rw [h2] at this
  cases this
 have hqd : ∀ (j : Nat) o, l.toArray[j]? = some o → (∀ c k, opAt chs c k ≠ some j) → o.dst ≠ none := fun j o ho hc e => by
  have := (hb6 j o ho hc).2.1
  rw [e] at this
  cases this
 have huq : ∀ c k c' k' j, opAt chs c k = some j → opAt chs c' k' = some j → c = c' ∧ k = k' := fun c k c' k' j hk hk' => by
  have h1 := opAt_lt hk
  have h2 := opAt_lt hk'
  have := b8 c (List.mem_range.2 h1.1) k (List.mem_range.2 h1.2) c' (List.mem_range.2 h2.1) k' (List.mem_range.2 h2.2)
  rw [hk, hk'] at this
  simpa using this
 have htd : ∀ c k j, opAt chs c k = some j → ∃ o, l.toArray[j]? = some o := fun c k j hk => by
  have h1 := opAt_lt hk
  have := b9 c (List.mem_range.2 h1.1) k (List.mem_range.2 h1.2)
  rw [hk] at this
  exact ⟨_, Array.getElem?_eq_getElem (by simpa using this)⟩
 have htw : ∀ c k j i o, opAt chs c (k + 1) = some j → opAt chs c k = some i → l.toArray[j]? = some o → ∃ e ∈ o.after, Region.binds .any e = true ∧ e.on = i := fun c k j i o hk hk' ho => by
  have h1 := opAt_lt hk'
  have := b10 c (List.mem_range.2 h1.1) k (List.mem_range.2 h1.2)
  rw [hk, hk'] at this
  simp only [ho] at this
  exact waits_spec this
 have hqm : ∀ o', o' ∈ (qs.filterMap fun i => l[i]?) → o'.guard = none ∧ ∃ j : Nat, l.toArray[j]? = some o' := fun o' ho' => by
  obtain ⟨i, _, hi⟩ := List.mem_filterMap.1 ho'
  have hi' : l.toArray[i]? = some o' := by simpa using hi
  exact ⟨hgd i o' hi', i, hi'⟩
 have hq : ∀ (j : Nat) o d s G, l.toArray[j]? = some o → (∀ c k, opAt chs c k ≠ some j) → o.dst = some d → ∃ v, A.tmps[d]? = some v ∧ ∀ u, C s G u → o.quietAt P A (C s G) u v := fun j o d s G ho hc hd => by
  have hm' : o ∈ (qs.filterMap fun i => l[i]?) := List.mem_filterMap.2 ⟨j, (hb6 j o ho hc).1, by simpa using ho⟩
  by_cases hne : Nonempty {u // C s G u}
  case neg =>
   obtain ⟨v, d', hd', hv, _⟩ := quiet_at hsel _ _ hA0 (by rw [putF_size, hN]) hD hL hqm o hm'
   rw [hd] at hd'
   cases hd'
   exact ⟨v, hv, fun u hu => absurd ⟨⟨u, hu⟩⟩ hne⟩
  have hC : (fun w' => ∃ x : {u // C s G u}, w' = x.1) = C s G := by
   funext u
   exact propext ⟨fun ⟨x, e⟩ => e ▸ x.2, fun h => ⟨⟨u, h⟩, rfl⟩⟩
  have h := h1 s G {u // C s G u} hne Subtype.val (fun u => ⟨fun h => ⟨⟨u, h⟩, rfl⟩, fun ⟨x, e⟩ => e ▸ x.2⟩)
  rw [hC] at h
  obtain ⟨v, d', hd', hv, hqa⟩ := quiet_at hsel _ _ h (by rw [putF_size, hN]) hD hL hqm o hm'
  rw [hd] at hd'
  cases hd'
  exact ⟨v, hv, hqa⟩
 have hst : ∀ c k j o, opAt chs c k = some j → l.toArray[j]? = some o → StepAt P .any A C chs ls c k j o := fun c k j o hk ho => by
  have hlt := opAt_lt hk
  have h4 := StepsA.at_ chs 0 h2 c _ (List.getElem?_eq_getElem hlt.1)
  have e : chs.getD c [] = chs[c] := by rw [List.getD_eq_getElem?_getD, List.getElem?_eq_getElem hlt.1]; rfl
  unfold opAt at hk
  rw [e] at hk
  have h5 := StepsC.at_ _ 0 h4 k j o hk ho
  rwa [Nat.zero_add, Nat.zero_add] at h5
 have hp0 : pend l.toArray (Array.replicate l.toArray.size false) = l.toArray.size := by
  unfold pend
  rw [List.filter_eq_self.2 fun j hj => ?_, List.length_range]
  have hj' := List.mem_range.1 hj
  have : (Array.replicate l.toArray.size false).getD j true = false := getD_in (by simpa using hj') (getD_replicate_false _ _)
  rw [this]; rfl
 have g0 : ∀ j, j < l.toArray.size → (Array.replicate l.toArray.size false).getD j true = false := fun j hj => getD_in (by simpa using hj) (getD_replicate_false _ _)
 refine any_flow hsel hgd hlow hwr hone hls hql hqd huq htd htw hq hst h3 l.toArray.size (Array.replicate l.toArray.size false) a (fun _ => 0) (fun _ => undef) _ hC0 (by simp) hp0 (fun c k j hk => ⟨fun hg => ?_, fun h => by omega⟩) (fun c => Nat.zero_le _) ⟨hsz.2.symm, hsz.1.symm, fun t ht => ?_⟩
 ·obtain ⟨o, ho⟩ := htd c k j hk
  rw [g0 j (Array.getElem?_eq_some_iff.1 ho).1] at hg
  cases hg
 ·have none_ : ∀ (j : Nat) o, l.toArray[j]? = some o → o.dst = some t → False := fun j o ho hd => by
   have := ht j o ho hd
   rw [g0 j (Array.getElem?_eq_some_iff.1 ho).1] at this
   cases this
  rw [AG_else _ ls A t fun p hp e => ?_, last_slot _ _ hA0 (fun o ho hd => ?_), putF_else fx a t fun p hp e => ?_]
  ·have := b11 p.1 (List.mem_map_of_mem hp)
   rw [Array.any_eq_true] at this
   obtain ⟨i, hi, hh⟩ := this
   exact none_ i _ (Array.getElem?_eq_getElem hi) (by rw [← e]; simpa using hh)
  ·obtain ⟨i, _, hi⟩ := List.mem_filterMap.1 ho
   exact none_ i o (by simpa using hi) hd
  ·obtain ⟨o2, ho2, hd2, _⟩ := hls p hp
   exact none_ p.1 o2 ho2 (by rw [← e]; exact hd2)
end
end Go.Proofs.YtgdcphmmehedoaaGreat.Fx.RF
/- Regions in which a writer is written to: the class of worlds behind some of its calls, and slices made for them. -/
namespace Go.Proofs.YtgdcphmmehedoaaGreat.Fx
open Go.ChangeShapes Go.WideShapes Go.ChangeAt Go.RowKit
set_option linter.unusedVariables false
structure Arg where
 m : Nat
 t : TypeId
 n : Nat
 cs : Array Value
def ArgsAt (ag : List Arg) (pb : Nat) (v : Value) (s : RF.Cnt) (G : RF.Lts) (u : World) : Prop :=
 ∀ (i : Nat) a, ag[i]? = some a → 0 < s (i + 1) → ∃ g, G a.m = .slice (some ⟨g, 0, none⟩) a.n a.n ∧ Has u g a.t a.cs ∧ ¬ OwnW pb v g
def kN (l : List (List Nat)) (k : Nat) : List Nat := l.getD k []
def CW (w : World) (pb : Nat) (v0 : Value) (K : List (List Nat)) (ag : List Arg) : RF.Cnt → RF.Lts → World → Prop := fun s G u =>
 ∃ v, Wv u pb v (kN K (s 0)) ∧ Wc pb w u v0 v ∧ ArgsAt ag pb v s G u
theorem CW.start {w : World} {pb : Nat} {v0 : Value} {K : List (List Nat)} {ag : List Arg} {G : RF.Lts} (h : Wv w pb v0 (kN K 0)) : CW w pb v0 K ag (fun _ => 0) G { w with drawn := w.drawn + 1 } :=
 ⟨v0, h.kept (made_draw w), (Wc.rfl_ _ _ _).made (made_draw w), fun i a _ hs => absurd hs (Nat.lt_irrefl 0)⟩
theorem CW.reads {w : World} {pb : Nat} {v0 : Value} {K : List (List Nat)} {ag : List Arg} {G : RF.Lts} {s : RF.Cnt} {T : Type} {f : T → World} (hf : ∀ u, CW w pb v0 K ag s G u ↔ ∃ x, u = f x) {p : Addr} {y : Value} (c : w.cell? p = some y) (hp : ¬ OwnW pb v0 p.block) : ∀ x, (f x).cell? p = some y := fun x => by
 obtain ⟨v, _, hc, _⟩ := (hf (f x)).2 ⟨x, rfl⟩
 exact hc.but.cell c hp
theorem CW.call {P : Program} {w : World} {pb : Nat} {v0 : Value} {K : List (List Nat)} {ag : List Arg} {G : RF.Lts} {s : RF.Cnt} {u : World} {A : Act} {ls : List (Nat × Tmp)} {k j : Nat} {o : Oper} {fn : Nat} {args : Array Value} {x : Value}
  (hC : CW w pb v0 K ag s G u) (hk : s 0 = k) (hl : RF.lettered ls j = false) (hd : ∀ d, o.dst = some d → A.tmps[d]? = some x)
  (h : ∀ v, Wv u pb v (kN K k) → Wc pb w u v0 v → ArgsAt ag pb v s G u → Calls P fn args u fun e u' => e = .returned x ∧ ∃ v', Wv u' pb v' (kN K (k + 1)) ∧ Wc pb u u' v v') :
  Calls P fn args u fun z u' => ∃ x, z = .returned x ∧ RF.Done A (CW w pb v0 K ag) ls s G 0 k j o x u' := by
 obtain ⟨v, h1, h2, h3⟩ := hC
 rw [hk] at h1
 refine (h v h1 h2 h3).mono ?_
 rintro z u' ⟨rfl, v', h4, h5⟩
 refine ⟨x, rfl, ?_, .inr hd⟩
 rw [hl]
 show CW w pb v0 K ag (RF.upd s 0 (k + 1)) G u'
 refine ⟨v', ?_, h2.then_ h5, fun i a ha hs => ?_⟩
 ·rw [RF.upd_same]; exact h4
 ·rw [RF.upd_else _ _ (by omega)] at hs
  obtain ⟨g, e1, e2, e3⟩ := h3 i a ha hs
  exact ⟨g, e1, e2.but h5.but e3, h5.offs e2.here e3⟩
theorem CW.make {w : World} {pb : Nat} {v0 : Value} {K : List (List Nat)} {ag : List Arg} {G : RF.Lts} {s : RF.Cnt} {u : World} {A : Act} {ls : List (Nat × Tmp)} {i : Nat} {o : Oper}
  (hC : CW w pb v0 K ag s G u) (a : Arg) (ha : ag[i]? = some a) (hl : RF.lettered ls a.m = true) (hone : ∀ i' a', ag[i']? = some a' → i' ≠ i → a'.m ≠ a.m) :
  RF.Done A (CW w pb v0 K ag) ls s G (i + 1) 0 a.m o (.slice (some ⟨u.heap.size, 0, none⟩) a.n a.n) (u.alloc (.cells a.cs a.t)) := by
 obtain ⟨v, h1, h2, h3⟩ := hC
 refine ⟨?_, .inl hl⟩
 rw [hl]
 show CW w pb v0 K ag (RF.upd s (i + 1) (0 + 1)) (RF.upd G a.m _) _
 have km : Made u.heap.size u (u.alloc (.cells a.cs a.t)) := (Made.rfl_ _ _).cells (Nat.le_refl _) _ _
 refine ⟨v, ?_, h2.made km, fun i' a' ha' hs => ?_⟩
 ·rw [RF.upd_else _ _ (by omega)]; exact h1.kept km
 ·by_cases e : i' = i
  ·subst e
   rw [ha] at ha'
   cases ha'
   exact ⟨u.heap.size, RF.upd_same _ _ _, has_new _ _ _, h1.off (.inr (Nat.le_refl _))⟩
  ·rw [RF.upd_else _ _ (by omega)] at hs
   obtain ⟨g, e1, e2, e3⟩ := h3 i' a' ha' hs
   exact ⟨g, by rw [RF.upd_else _ _ (hone i' a' ha' e)]; exact e1, e2.more _, e3⟩
theorem ns1 {w : World} {g : Nat} {t : TypeId} {x : Int} (h : Has w g t #[.int .i64 x]) : Ns w (some ⟨g, 0, none⟩) 1 (fun _ => x) := fun _ => by
 refine ⟨g, 0, rfl, fun i hi => ?_⟩
 rw [Nat.zero_add, h.at_ i]
 have : i = 0 := by omega
 subst this
 rfl
def f3 (x y z : Int) : Nat → Int := fun i => if i = 0 then x else if i = 1 then y else z
theorem ns3 {w : World} {g : Nat} {t : TypeId} {x y z : Int} (h : Has w g t #[.int .i64 x, .int .i64 y, .int .i64 z]) : Ns w (some ⟨g, 0, none⟩) 3 (f3 x y z) := fun _ => by
 refine ⟨g, 0, rfl, fun i hi => ?_⟩
 rw [Nat.zero_add, h.at_ i]
 have : i = 0 ∨ i = 1 ∨ i = 2 := by omega
 rcases this with rfl | rfl | rfl <;> rfl
def c1 (x y : Int) : Cs := fun _ => (x, y)
def c2 (x y x' y' : Int) : Cs := fun i => if i = 0 then (x, y) else (x', y')
theorem sl1 {w : World} {g : Nat} {t : TypeId} {x y : Int} (h : Has w g t #[.int .i64 x, .int .i64 y]) : Sl w (some ⟨g, 0, none⟩) 1 (c1 x y) := fun _ => by
 refine ⟨g, 0, rfl, fun i hi => ?_⟩
 have : i = 0 := by omega
 subst this
 rw [h.at_, h.at_]
 exact ⟨rfl, rfl⟩
theorem sl2 {w : World} {g : Nat} {t : TypeId} {x y x' y' : Int} (h : Has w g t #[.int .i64 x, .int .i64 y, .int .i64 x', .int .i64 y']) : Sl w (some ⟨g, 0, none⟩) 2 (c2 x y x' y') := fun _ => by
 refine ⟨g, 0, rfl, fun i hi => ?_⟩
 have : i = 0 ∨ i = 1 := by omega
 rcases this with rfl | rfl <;> (rw [h.at_, h.at_]; exact ⟨rfl, rfl⟩)
theorem offs_of {pb g : Nat} {v : Value} (h : ¬ OwnW pb v g) : 0 < (1 : Nat) → Offs (OwnW pb v) (some ⟨g, 0, none⟩) := fun _ b off s e => by cases e; exact h
theorem fB1 (x : Int) : fB (fun _ => x) 1 = nb 8 x := by rw [fB_next]; rfl
theorem fB3 (x y z : Int) : fB (f3 x y z) 3 = nb 8 x ++ nb 8 y ++ nb 8 z := by rw [fB_next, fB_next, fB_next]; rfl
theorem vB1 (x y : Int) : vB (c1 x y) 1 = nb 8 x ++ nb 8 y := by rw [vB_next]; rfl
theorem vB2 (x y x' y' : Int) : vB (c2 x y x' y') 2 = nb 8 x ++ nb 8 y ++ (nb 8 x' ++ nb 8 y') := by rw [vB_next, vB_next]; rfl
theorem i64_f3 {x y z : Int} (hx : I64 x) (hy : I64 y) (hz : I64 z) : ∀ i, i < 3 → I64 (f3 x y z i) := fun i _ => by
 unfold f3; split
 ·exact hx
 ·split
  ·exact hy
  ·exact hz
theorem cin_c1 {x y : Int} (hx : I64 x) (hy : I64 y) : Cin (c1 x y) 1 := fun i _ => ⟨hx, hy⟩
theorem cin_c2 {x y x' y' : Int} (hx : I64 x) (hy : I64 y) (hx' : I64 x') (hy' : I64 y') : Cin (c2 x y x' y') 2 := fun i _ => by
 unfold c2; split
 ·exact ⟨hx, hy⟩
 ·exact ⟨hx', hy'⟩
end Go.Proofs.YtgdcphmmehedoaaGreat.Fx
/- Package codec: a shape is written. -/
namespace Go.Proofs.YtgdcphmmehedoaaGreat.Fx
open Go.ChangeShapes Go.WideShapes Go.ChangeAt Go.RowKit
set_option linter.unusedVariables false
def shB (k r : Int) (n : Nat) (f : Cs) : List Nat := nb 1 k ++ (if k = 1 then nb 8 r else if k = 2 then nb 1 (n : Nat) ++ vB f n else [])
theorem wshape1_c {pb n c : Nat} {v : Value} {l : List Nat} {k r : Int} {ao : Option Addr} {f : Cs} {w : World} (hW : Wv w pb v l) (hr : I64 r) (hs : Sl w ao n f) (hX : 0 < n → Offs (OwnW pb v) ao) (hf : Cin f n) (hn : l.length + 16 * n + 32 ≤ 549755813888) :
  Calls Tryz.prog 70 #[.pointer (some ⟨pb, 0, none⟩), .agg #[.int .i64 1, .int .i64 r, .slice ao n c]] w fun e w' => e = .returned (.tuple #[]) ∧ ∃ v', Wv w' pb v' (l ++ shB 1 r n f) ∧ Wc pb w w' v v' := by
 have hk : I64 1 := by unfold I64; omega
 have HW := hid hW
 have HS := hid hs
 have HX := hid hX
 have HF := hid hf
 have hk1 := hk.1; have hk2 := hk.2
 have hr1 := hr.1; have hr2 := hr.2
 obtain ⟨W, eW⟩ : ∃ W, W = w.alloc (.cells #[.int .i64 1, .int .i64 r, .slice ao n c] 33) := ⟨_, rfl⟩
 have KW : Hid (Made w.heap.size w W) := by unfold Hid; rw [eW]; exact (Made.rfl_ _ _).cells (Nat.le_refl _) _ _
 obtain ⟨g1, eg1⟩ : ∃ g, w.heap.size = g := ⟨_, rfl⟩
 have HB : Hid (Has W g1 33 #[.int .i64 1, .int .i64 r, .slice ao n c]) := by unfold Hid; rw [eW, ← eg1]; exact has_new _ _ _
 have HG : Hid (¬ OwnW pb v g1) := HW.out.off (.inr (Nat.le_of_eq eg1))
 have HW1 := hid (HW.out.kept KW.out)
 have d0 : W.cell? ⟨g1, 0, none⟩ = some (.int .i64 1) := HB.out.at_ 0
 have d1 : W.cell? ⟨g1, 1, none⟩ = some (.int .i64 r) := HB.out.at_ 1
 have d2 : W.cell? ⟨g1, 2, none⟩ = some (.slice ao n c) := HB.out.at_ 2
 clear hW hs hX hf hk hr
 go_enter Tryz.func70, Tryz.ntmps70
 go_upto_region 1 with fail
 rw [← eW]
 clear eW
 try rw [eg1]
 clear eg1
 refine RF.reg_flow (CW W pb v [l, l ++ nb 1 1] []) [[5]] [] [0, 1, 2, 3, 4] [(9, .pointer (some ⟨pb, 0, none⟩))] 33 (by kernel_rfl) (CW.start HW1.out) (by kernel_rfl) rfl (by kernel_rfl) (by kernel_rfl) ?_
 apply Exists.intro
 refine ⟨?q1a, ?q1b, ?q1c⟩
 case q1a =>
  intro s G Ty hT f hf
  have d0 := CW.reads hf d0 HG.out
  clear hf
  simp only [RF.putF, Act.put, List.setIfInBounds_toArray, List.set_cons_succ, List.set_cons_zero]
  change wpQuiet _ _ _ _ [_, _, _, _, _] _
  repeat (go_big_quiet_step (fail))
  exact wpQuiet_nil rfl
 case q1b =>
  refine ⟨⟨?_, trivial⟩, trivial⟩
  ·intro s G u hC hk hw
   rw [show (execOp _ _).run Tryz.prog u = .ok (.enter 19 #[.pointer (some ⟨pb, 0, none⟩), .int .i64 1, .int .i64 1]) u by kernel_rfl]
   refine CW.call hC hk rfl (fun d e => by cases e; rfl) fun v hv hc ha => ?_
   refine (wnum_c (m := 1) hv (by omega) (by show List.length (l)  ≤ _; omega) (by omega) (by omega)).mono ?_
   rintro e u' ⟨rfl, v', h1, h2⟩
   exact ⟨rfl, v', h1, h2⟩
 case q1c =>
  intro G u hu
  obtain ⟨v1, hv1, hc1, _⟩ := hu
  have HV1 : Hid (Wv u pb v1 (l ++ nb 1 1)) := hv1
  have HC1 := hid hc1
  have e0 := hc1.but.cell d0 HG.out
  have e1 := hc1.but.cell d1 HG.out
  have e2 := hc1.but.cell d2 HG.out
  have HG2 := hid (hc1.offs HB.out.here HG.out)
  have HS2 : Hid (Sl u ao n f) := (Sl.kept HS.out KW.out : Sl W ao n f) |> fun h hn => by
   obtain ⟨b, off, e, hp⟩ := h hn
   exact ⟨b, off, e, hp.but HC1.out.but (HX.out hn b off none e)⟩
  have HX2 : Hid (0 < n → Offs (OwnW pb v1) ao) := fun hn b off s e => by
   obtain ⟨b', off', e', hp⟩ := (Sl.kept HS.out KW.out : Sl W ao n f) hn
   rw [e] at e'; cases e'
   exact HC1.out.offs (World.block_lt_of_cell? _ _ (hp 0 hn).1) (HX.out hn b off none e)
  clear hv1 hc1 d0 d1 d2
  simp only [RF.AG]
  go_upto_region 4 with fail
  refine RF.reg_flow (CW u pb v1 [l ++ nb 1 1, l ++ nb 1 1 ++ fB (fun _ => r) 1] [⟨5, 26, 1, #[.int .i64 r]⟩]) [[6], [5]] [(5, 19)] [0, 1, 2, 3, 4] [(20, .pointer (some ⟨pb, 0, none⟩))] 33 (by kernel_rfl) (CW.start HV1.out) (by kernel_rfl) rfl (by kernel_rfl) (by kernel_rfl) ?_
  apply Exists.intro
  refine ⟨?q2a, ?q2b, ?q2c⟩
  case q2a =>
   intro s G Ty hT f hf
   have z1 := CW.reads hf e1 HG2.out
   clear hf
   simp only [RF.putF, Act.put, List.setIfInBounds_toArray, List.set_cons_succ, List.set_cons_zero]
   change wpQuiet _ _ _ _ [_, _, _, _, _] _
   repeat (go_big_quiet_step (fail))
   exact wpQuiet_nil rfl
  case q2b =>
   refine ⟨⟨?_, trivial⟩, ⟨?_, trivial⟩, trivial⟩
   ·intro s G u hC hk hw
    rw [show (execOp _ _).run Tryz.prog u = .ok (.enter 34 #[.pointer (some ⟨pb, 0, none⟩), G 5]) u by kernel_rfl]
    refine CW.call hC hk rfl (fun d e => by cases e; rfl) fun v hv hc ha => ?_
    obtain ⟨g, eg, hg, og⟩ := ha 0 _ rfl (hw 1 0 5 rfl (by kernel_rfl))
    rw [show G 5 = _ from eg]
    refine (wf_c (n := 1) (c := 1) hv (ns1 hg) (fun _ => offs_of og (by omega)) (fun i _ => ⟨hr1, hr2⟩) (by show List.length (l ++ nb 1 1) + 8 * 1 ≤ _; simp only [List.length_append, nb_len]; omega)).mono ?_
    rintro e u' ⟨rfl, v', h1, h2⟩
    exact ⟨rfl, v', h1, h2⟩
   ·intro s G u hC hk hw
    rw [show (execOp _ _).run Tryz.prog u = .ok (.value (.slice (some ⟨u.heap.size, 0, none⟩) 1 1)) (u.alloc (.cells #[.int .i64 r] 26)) by kernel_rfl]
    exact CW.make (i := 0) hC _ rfl rfl (fun i' a' h hne => by
     match i', h with
     | 0, h => exact absurd rfl hne
     | n + 1, h => simp at h)
  case q2c =>
   intro G u2 hu
   obtain ⟨v2, hv2, hc2, _⟩ := hu
   have HV2 : Hid (Wv u2 pb v2 (l ++ nb 1 1 ++ fB (fun _ => r) 1)) := hv2
   have HC2 := hid hc2
   clear hv2 hc2 e0 e1 e2
   simp only [RF.AG, Act.put, List.setIfInBounds_toArray, List.set_cons_succ, List.set_cons_zero]
   go_wp2_with fail
   refine cvoid_end rfl rfl ⟨rfl, v2, ?_, ((Wc.rfl_ _ _ _).made KW.out).then_ (HC1.out.then_ HC2.out)⟩
   have h := HV2.out
   rw [fB1, List.append_assoc] at h
   exact h
theorem wshape2_c {pb n c : Nat} {v : Value} {l : List Nat} {k r : Int} {ao : Option Addr} {f : Cs} {w : World} (hW : Wv w pb v l) (hr : I64 r) (hs : Sl w ao n f) (hX : 0 < n → Offs (OwnW pb v) ao) (hf : Cin f n) (hn : l.length + 16 * n + 32 ≤ 549755813888) :
  Calls Tryz.prog 70 #[.pointer (some ⟨pb, 0, none⟩), .agg #[.int .i64 2, .int .i64 r, .slice ao n c]] w fun e w' => e = .returned (.tuple #[]) ∧ ∃ v', Wv w' pb v' (l ++ shB 2 r n f) ∧ Wc pb w w' v v' := by
 have hk : I64 2 := by unfold I64; omega
 have HW := hid hW
 have HS := hid hs
 have HX := hid hX
 have HF := hid hf
 have hk1 := hk.1; have hk2 := hk.2
 have hr1 := hr.1; have hr2 := hr.2
 obtain ⟨W, eW⟩ : ∃ W, W = w.alloc (.cells #[.int .i64 2, .int .i64 r, .slice ao n c] 33) := ⟨_, rfl⟩
 have KW : Hid (Made w.heap.size w W) := by unfold Hid; rw [eW]; exact (Made.rfl_ _ _).cells (Nat.le_refl _) _ _
 obtain ⟨g1, eg1⟩ : ∃ g, w.heap.size = g := ⟨_, rfl⟩
 have HB : Hid (Has W g1 33 #[.int .i64 2, .int .i64 r, .slice ao n c]) := by unfold Hid; rw [eW, ← eg1]; exact has_new _ _ _
 have HG : Hid (¬ OwnW pb v g1) := HW.out.off (.inr (Nat.le_of_eq eg1))
 have HW1 := hid (HW.out.kept KW.out)
 have d0 : W.cell? ⟨g1, 0, none⟩ = some (.int .i64 2) := HB.out.at_ 0
 have d1 : W.cell? ⟨g1, 1, none⟩ = some (.int .i64 r) := HB.out.at_ 1
 have d2 : W.cell? ⟨g1, 2, none⟩ = some (.slice ao n c) := HB.out.at_ 2
 clear hW hs hX hf hk hr
 go_enter Tryz.func70, Tryz.ntmps70
 go_upto_region 1 with fail
 rw [← eW]
 clear eW
 try rw [eg1]
 clear eg1
 refine RF.reg_flow (CW W pb v [l, l ++ nb 1 2] []) [[5]] [] [0, 1, 2, 3, 4] [(9, .pointer (some ⟨pb, 0, none⟩))] 33 (by kernel_rfl) (CW.start HW1.out) (by kernel_rfl) rfl (by kernel_rfl) (by kernel_rfl) ?_
 apply Exists.intro
 refine ⟨?q3a, ?q3b, ?q3c⟩
 case q3a =>
  intro s G Ty hT f hf
  have d0 := CW.reads hf d0 HG.out
  clear hf
  simp only [RF.putF, Act.put, List.setIfInBounds_toArray, List.set_cons_succ, List.set_cons_zero]
  change wpQuiet _ _ _ _ [_, _, _, _, _] _
  repeat (go_big_quiet_step (fail))
  exact wpQuiet_nil rfl
 case q3b =>
  refine ⟨⟨?_, trivial⟩, trivial⟩
  ·intro s G u hC hk hw
   rw [show (execOp _ _).run Tryz.prog u = .ok (.enter 19 #[.pointer (some ⟨pb, 0, none⟩), .int .i64 1, .int .i64 2]) u by kernel_rfl]
   refine CW.call hC hk rfl (fun d e => by cases e; rfl) fun v hv hc ha => ?_
   refine (wnum_c (m := 1) hv (by omega) (by show List.length (l)  ≤ _; omega) (by omega) (by omega)).mono ?_
   rintro e u' ⟨rfl, v', h1, h2⟩
   exact ⟨rfl, v', h1, h2⟩
 case q3c =>
  intro G u hu
  obtain ⟨v1, hv1, hc1, _⟩ := hu
  have HV1 : Hid (Wv u pb v1 (l ++ nb 1 2)) := hv1
  have HC1 := hid hc1
  have e0 := hc1.but.cell d0 HG.out
  have e1 := hc1.but.cell d1 HG.out
  have e2 := hc1.but.cell d2 HG.out
  have HG2 := hid (hc1.offs HB.out.here HG.out)
  have HS2 : Hid (Sl u ao n f) := (Sl.kept HS.out KW.out : Sl W ao n f) |> fun h hn => by
   obtain ⟨b, off, e, hp⟩ := h hn
   exact ⟨b, off, e, hp.but HC1.out.but (HX.out hn b off none e)⟩
  have HX2 : Hid (0 < n → Offs (OwnW pb v1) ao) := fun hn b off s e => by
   obtain ⟨b', off', e', hp⟩ := (Sl.kept HS.out KW.out : Sl W ao n f) hn
   rw [e] at e'; cases e'
   exact HC1.out.offs (World.block_lt_of_cell? _ _ (hp 0 hn).1) (HX.out hn b off none e)
  clear hv1 hc1 d0 d1 d2
  simp only [RF.AG]
  go_upto_region 6 with fail
  refine RF.reg_flow (CW u pb v1 [l ++ nb 1 2, l ++ nb 1 2 ++ nb 1 (n : Nat), l ++ nb 1 2 ++ nb 1 (n : Nat) ++ vB f n] []) [[6, 9]] [] [0, 1, 2, 3, 4, 5, 7, 8] [(29, .pointer (some ⟨pb, 0, none⟩)), (32, .pointer (some ⟨pb, 0, none⟩))] 33 (by kernel_rfl) (CW.start HV1.out) (by kernel_rfl) rfl (by kernel_rfl) (by kernel_rfl) ?_
  apply Exists.intro
  refine ⟨?q4a, ?q4b, ?q4c⟩
  case q4a =>
   intro s G Ty hT f hf
   have z2 := CW.reads hf e2 HG2.out
   clear hf
   simp only [RF.putF, Act.put, List.setIfInBounds_toArray, List.set_cons_succ, List.set_cons_zero]
   change wpQuiet _ _ _ _ [_, _, _, _, _, _, _, _] _
   repeat (go_big_quiet_step (fail))
   exact wpQuiet_nil rfl
  case q4b =>
   refine ⟨⟨?_, ?_, trivial⟩, trivial⟩
   ·intro s G u hC hk hw
    rw [show (execOp _ _).run Tryz.prog u = .ok (.enter 19 #[.pointer (some ⟨pb, 0, none⟩), .int .i64 1, .int .i64 (n : Nat)]) u by kernel_rfl]
    refine CW.call hC hk rfl (fun d e => by cases e; rfl) fun v hv hc ha => ?_
    refine (wnum_c (m := 1) hv (by omega) (by show List.length (l ++ nb 1 2)  ≤ _; simp only [List.length_append, nb_len]; omega) (by omega) (by omega)).mono ?_
    rintro e u' ⟨rfl, v', h1, h2⟩
    exact ⟨rfl, v', h1, h2⟩
   ·intro s G u hC hk hw
    rw [show (execOp _ _).run Tryz.prog u = .ok (.enter 20 #[.pointer (some ⟨pb, 0, none⟩), .slice ao n c]) u by kernel_rfl]
    refine CW.call hC hk rfl (fun d e => by cases e; rfl) fun v hv hc ha => ?_
    refine (wv_c (f := f) hv (fun h => by obtain ⟨b, off, e, hp⟩ := HS2.out h; exact ⟨b, off, e, hp.but hc.but (HX2.out h b off none e)⟩) (fun h b off s e => by obtain ⟨b', off', e', hp⟩ := HS2.out h; rw [e] at e'; cases e'; exact hc.offs (World.block_lt_of_cell? _ _ (hp 0 h).1) (HX2.out h b off none e)) HF.out (by show List.length (l ++ nb 1 2 ++ nb 1 (n : Nat)) + 16 * n ≤ _; simp only [List.length_append, nb_len]; omega)).mono ?_
    rintro e u' ⟨rfl, v', h1, h2⟩
    exact ⟨rfl, v', h1, h2⟩
  case q4c =>
   intro G u2 hu
   obtain ⟨v2, hv2, hc2, _⟩ := hu
   have HV2 : Hid (Wv u2 pb v2 (l ++ nb 1 2 ++ nb 1 (n : Nat) ++ vB f n)) := hv2
   have HC2 := hid hc2
   clear hv2 hc2 e0 e1 e2
   simp only [RF.AG]
   go_wp2_with fail
   refine cvoid_end rfl rfl ⟨rfl, v2, ?_, ((Wc.rfl_ _ _ _).made KW.out).then_ (HC1.out.then_ HC2.out)⟩
   have h := HV2.out
   rw [List.append_assoc, List.append_assoc] at h
   exact h
theorem wshape0_c {pb n c : Nat} {v : Value} {l : List Nat} {k r : Int} {ao : Option Addr} {f : Cs} {w : World} (hW : Wv w pb v l) (hk : I64 k) (hr : I64 r) (hs : Sl w ao n f) (hX : 0 < n → Offs (OwnW pb v) ao) (hf : Cin f n) (hn : l.length + 16 * n + 32 ≤ 549755813888) (h1 : k ≠ 1) (h2 : k ≠ 2) :
  Calls Tryz.prog 70 #[.pointer (some ⟨pb, 0, none⟩), .agg #[.int .i64 k, .int .i64 r, .slice ao n c]] w fun e w' => e = .returned (.tuple #[]) ∧ ∃ v', Wv w' pb v' (l ++ shB k r n f) ∧ Wc pb w w' v v' := by
 have q1 : (k == 1) = false := by rw [beq_eq_false_iff_ne]; exact h1
 have q2 : (k == 2) = false := by rw [beq_eq_false_iff_ne]; exact h2
 have HW := hid hW
 have HS := hid hs
 have HX := hid hX
 have HF := hid hf
 have hk1 := hk.1; have hk2 := hk.2
 have hr1 := hr.1; have hr2 := hr.2
 obtain ⟨W, eW⟩ : ∃ W, W = w.alloc (.cells #[.int .i64 k, .int .i64 r, .slice ao n c] 33) := ⟨_, rfl⟩
 have KW : Hid (Made w.heap.size w W) := by unfold Hid; rw [eW]; exact (Made.rfl_ _ _).cells (Nat.le_refl _) _ _
 obtain ⟨g1, eg1⟩ : ∃ g, w.heap.size = g := ⟨_, rfl⟩
 have HB : Hid (Has W g1 33 #[.int .i64 k, .int .i64 r, .slice ao n c]) := by unfold Hid; rw [eW, ← eg1]; exact has_new _ _ _
 have HG : Hid (¬ OwnW pb v g1) := HW.out.off (.inr (Nat.le_of_eq eg1))
 have HW1 := hid (HW.out.kept KW.out)
 have d0 : W.cell? ⟨g1, 0, none⟩ = some (.int .i64 k) := HB.out.at_ 0
 have d1 : W.cell? ⟨g1, 1, none⟩ = some (.int .i64 r) := HB.out.at_ 1
 have d2 : W.cell? ⟨g1, 2, none⟩ = some (.slice ao n c) := HB.out.at_ 2
 clear hW hs hX hf hk hr
 go_enter Tryz.func70, Tryz.ntmps70
 go_upto_region 1 with fail
 rw [← eW]
 clear eW
 try rw [eg1]
 clear eg1
 refine RF.reg_flow (CW W pb v [l, l ++ nb 1 k] []) [[5]] [] [0, 1, 2, 3, 4] [(9, .pointer (some ⟨pb, 0, none⟩))] 33 (by kernel_rfl) (CW.start HW1.out) (by kernel_rfl) rfl (by kernel_rfl) (by kernel_rfl) ?_
 apply Exists.intro
 refine ⟨?q5a, ?q5b, ?q5c⟩
 case q5a =>
  intro s G Ty hT f hf
  have d0 := CW.reads hf d0 HG.out
  clear hf
  simp only [RF.putF, Act.put, List.setIfInBounds_toArray, List.set_cons_succ, List.set_cons_zero]
  change wpQuiet _ _ _ _ [_, _, _, _, _] _
  repeat (go_big_quiet_step (fail))
  exact wpQuiet_nil rfl
 case q5b =>
  refine ⟨⟨?_, trivial⟩, trivial⟩
  ·intro s G u hC hk hw
   rw [show (execOp _ _).run Tryz.prog u = .ok (.enter 19 #[.pointer (some ⟨pb, 0, none⟩), .int .i64 1, .int .i64 k]) u by kernel_rfl]
   refine CW.call hC hk rfl (fun d e => by cases e; rfl) fun v hv hc ha => ?_
   refine (wnum_c (m := 1) hv (by omega) (by show List.length (l)  ≤ _; omega) (by omega) (by omega)).mono ?_
   rintro e u' ⟨rfl, v', h1, h2⟩
   exact ⟨rfl, v', h1, h2⟩
 case q5c =>
  intro G u hu
  obtain ⟨v1, hv1, hc1, _⟩ := hu
  have HV1 : Hid (Wv u pb v1 (l ++ nb 1 k)) := hv1
  have HC1 := hid hc1
  have e0 := hc1.but.cell d0 HG.out
  have e1 := hc1.but.cell d1 HG.out
  have e2 := hc1.but.cell d2 HG.out
  have HG2 := hid (hc1.offs HB.out.here HG.out)
  have HS2 : Hid (Sl u ao n f) := (Sl.kept HS.out KW.out : Sl W ao n f) |> fun h hn => by
   obtain ⟨b, off, e, hp⟩ := h hn
   exact ⟨b, off, e, hp.but HC1.out.but (HX.out hn b off none e)⟩
  have HX2 : Hid (0 < n → Offs (OwnW pb v1) ao) := fun hn b off s e => by
   obtain ⟨b', off', e', hp⟩ := (Sl.kept HS.out KW.out : Sl W ao n f) hn
   rw [e] at e'; cases e'
   exact HC1.out.offs (World.block_lt_of_cell? _ _ (hp 0 hn).1) (HX.out hn b off none e)
  clear hv1 hc1 d0 d1 d2
  simp only [RF.AG]
  clear e1 e2
  go_wp2_with fail
  refine cvoid_end rfl rfl ⟨rfl, v1, ?_, ((Wc.rfl_ _ _ _).made KW.out).then_ HC1.out⟩
  unfold shB
  rw [if_neg h1, if_neg h2, List.append_nil]
  exact HV1.out
theorem wshape_c {pb n c : Nat} {v : Value} {l : List Nat} {k r : Int} {ao : Option Addr} {f : Cs} {w : World} (hW : Wv w pb v l) (hk : I64 k) (hr : I64 r) (hs : Sl w ao n f) (hX : 0 < n → Offs (OwnW pb v) ao) (hf : Cin f n) (hn : l.length + 16 * n + 32 ≤ 549755813888) :
  Calls Tryz.prog 70 #[.pointer (some ⟨pb, 0, none⟩), .agg #[.int .i64 k, .int .i64 r, .slice ao n c]] w fun e w' => e = .returned (.tuple #[]) ∧ ∃ v', Wv w' pb v' (l ++ shB k r n f) ∧ Wc pb w w' v v' := by
 by_cases h1 : k = 1
 ·subst h1; exact wshape1_c (k := 0) hW hr hs hX hf hn
 ·by_cases h2 : k = 2
  ·subst h2; exact wshape2_c (k := 0) hW hr hs hX hf hn
  ·exact wshape0_c hW hk hr hs hX hf hn h1 h2
end Go.Proofs.YtgdcphmmehedoaaGreat.Fx