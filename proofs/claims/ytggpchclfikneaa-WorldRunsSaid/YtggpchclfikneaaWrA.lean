/- Maps of numbers and of pairs by what they hold, for WorldRuns. -/
import Derived.Test.YtggpchclfikneaaWlQ
import Derived.Maps.OwnOps
import Derived.Maps.OwnSet
import Derived.Maps.RangeWalk
import Derived.Maps.Ext
namespace Go.Proofs.Ytggpchclfikneaa.Fx
open Go.ChangeShapes Go.WideShapes Go.ChangeAt Go.RowKit Go.Maps
set_option linter.unusedVariables false

abbrev ik (a : Int) : Lit := .int .i64 a
theorem ik_ne {a b : Int} (h : a ≠ b) : ik a ≠ ik b := fun e => h (by injection e)
theorem ik_key (a : Int) : WideAt.IsKeyLit (ik a) := trivial
/-- the map's keys are these numbers -/
structure KM (D : DataW Unit) (K : List Int) : Prop where
  tidy : Tidy D
  has : ∀ kl, Maps.has D kl = true ↔ ∃ a ∈ K, kl = ik a
theorem Tidy.isMap' {D : DataW Unit} (h : Tidy D) : IsMap D := by
  obtain ⟨es, e, _⟩ := h
  exact ⟨es, e⟩
theorem km_nil : KM (.map []) [] := ⟨tidy_empty, fun kl => ⟨fun h => (by cases h), fun h => (by obtain ⟨a, h, _⟩ := h; cases h)⟩⟩
theorem KM.yes {D : DataW Unit} {K : List Int} (h : KM D K) {a : Int} (ha : a ∈ K) : Maps.has D (ik a) = true := (h.has _).2 ⟨a, ha, rfl⟩
theorem KM.no {D : DataW Unit} {K : List Int} (h : KM D K) {a : Int} (ha : a ∉ K) : Maps.has D (ik a) = false := by
  cases e : Maps.has D (ik a) with
  | false => rfl
  | true =>
    obtain ⟨b, hb, e2⟩ := (h.has _).1 e
    have : a = b := by injection e2
    exact absurd (this ▸ hb) ha
theorem KM.put {D : DataW Unit} {K : List Int} (h : KM D K) (a : Int) (d : DataW Unit) : KM (D.put (ik a) d) (K ++ [a]) := by
  refine ⟨h.tidy.put (ik_key a) d, fun kl => ?_⟩
  by_cases e : kl = ik a
  · subst e
    exact ⟨fun _ => ⟨a, by simp, rfl⟩, fun _ => has_put_same (Tidy.isMap' h.tidy) (ik_key a) d⟩
  · rw [has_put_other e, h.has]
    constructor
    · rintro ⟨b, hb, e2⟩
      exact ⟨b, by simp [hb], e2⟩
    · rintro ⟨b, hb, e2⟩
      rcases List.mem_append.1 hb with hb | hb
      · exact ⟨b, hb, e2⟩
      · rw [List.mem_singleton.1 hb] at e2
        exact absurd e2 e
theorem KM.del {D : DataW Unit} {K : List Int} (h : KM D K) (a : Int) : KM (D.del (ik a)) (K.filter fun b => !(b == a)) := by
  refine ⟨h.tidy.del _, fun kl => ?_⟩
  by_cases e : kl = ik a
  · subst e
    rw [has_del_same]
    refine ⟨fun h => (by cases h), ?_⟩
    rintro ⟨b, hb, e2⟩
    have : a = b := by injection e2
    subst this
    simp at hb
  · rw [has_del_other e, h.has]
    constructor
    · rintro ⟨b, hb, e2⟩
      refine ⟨b, List.mem_filter.2 ⟨hb, ?_⟩, e2⟩
      have : b ≠ a := fun h => e (by rw [e2, h])
      simpa using this
    · rintro ⟨b, hb, e2⟩
      exact ⟨b, (List.mem_filter.1 hb).1, e2⟩
theorem KM.same {D : DataW Unit} {K K' : List Int} (h : KM D K) (e : ∀ a, a ∈ K ↔ a ∈ K') : KM D K' :=
  ⟨h.tidy, fun kl => (h.has kl).trans ⟨fun ⟨a, ha, x⟩ => ⟨a, (e a).1 ha, x⟩, fun ⟨a, ha, x⟩ => ⟨a, (e a).2 ha, x⟩⟩⟩
theorem nodup_len {α : Type} : ∀ {l m : List α}, l.Nodup → (∀ a ∈ l, a ∈ m) → l.length ≤ m.length
  | [], _, _, _ => Nat.zero_le _
  | x :: l, m, hn, hs => by
    obtain ⟨h1, h2⟩ := List.nodup_cons.1 hn
    obtain ⟨s, t, rfl⟩ := List.append_of_mem (hs x (List.mem_cons_self ..))
    have := nodup_len (m := s ++ t) h2 fun a ha => by
      have h3 := hs a (List.mem_cons_of_mem _ ha)
      rcases List.mem_append.1 h3 with h3 | h3
      · exact List.mem_append.2 (.inl h3)
      · rcases List.mem_cons.1 h3 with h3 | h3
        · exact absurd (h3 ▸ ha) h1
        · exact List.mem_append.2 (.inr h3)
    simp only [List.length_append, List.length_cons] at this ⊢
    omega
theorem ik_nodup : ∀ {K : List Int}, K.Nodup → (K.map ik).Nodup
  | [], _ => by simp
  | a :: K, h => by
    obtain ⟨h1, h2⟩ := List.nodup_cons.1 h
    rw [List.map_cons, List.nodup_cons]
    refine ⟨fun hm => ?_, ik_nodup h2⟩
    obtain ⟨b, hb, e⟩ := List.mem_map.1 hm
    have : b = a := by injection e
    exact h1 (this ▸ hb)
theorem KM.size {D : DataW Unit} {K : List Int} (h : KM D K) (hc : Canon D) (hn : K.Nodup) : Maps.size D = K.length := by
  obtain ⟨es, rfl, hr, hk⟩ := hc
  have hn1 : (es.map (·.1)).Nodup := by
    unfold List.Nodup
    rw [List.pairwise_map]
    exact apart_of_rising hr
  have hm : ∀ kl, kl ∈ es.map (·.1) ↔ kl ∈ K.map ik := by
    intro kl
    have h1 : es.any (fun p => p.1.sameKey kl) = true ↔ ∃ a ∈ K, kl = ik a := h.has kl
    rw [List.any_eq_true] at h1
    constructor
    · intro hx
      obtain ⟨p, hp1, rfl⟩ := List.mem_map.1 hx
      obtain ⟨a, ha, e⟩ := h1.1 ⟨p, hp1, WideAt.sameKey_self (hk p hp1)⟩
      exact List.mem_map.2 ⟨a, ha, e.symm⟩
    · intro hx
      obtain ⟨a, ha, rfl⟩ := List.mem_map.1 hx
      obtain ⟨p, hp1, hs⟩ := h1.2 ⟨a, ha, rfl⟩
      exact List.mem_map.2 ⟨p, hp1, WideAt.sameKey_eq hs⟩
  have e1 := nodup_len hn1 (fun a ha => (hm a).1 ha)
  have e2 := nodup_len (ik_nodup hn) (fun a ha => (hm a).2 ha)
  simp only [List.length_map] at e1 e2
  show es.length = _
  omega

/-! ### bodies' numbers, joints' ends -/
def oneU : DataW Unit := .lit (.int .i64 1)
def zeroU : DataW Unit := .lit (.int .i64 0)
structure BodM (D : DataW Unit) (K : List Int) : Prop where
  km : KM D K
  at_ : ∀ a ∈ K, ∀ z, D.atKey (ik a) z = oneU
theorem bodM_nil : BodM (.map []) [] := ⟨km_nil, fun a h => (by cases h)⟩
theorem BodM.put {D : DataW Unit} {K : List Int} (h : BodM D K) (a : Int) : BodM (D.put (ik a) oneU) (K ++ [a]) := by
  refine ⟨h.km.put a _, fun b hb z => ?_⟩
  by_cases e : b = a
  · subst e
    exact atKey_put_same (Tidy.isMap' h.km.tidy) (ik_key b) _ _
  · rw [atKey_put_other (ik_ne e)]
    rcases List.mem_append.1 hb with hb | hb
    · exact h.at_ b hb z
    · exact absurd (List.mem_singleton.1 hb) e
theorem BodM.del {D : DataW Unit} {K : List Int} (h : BodM D K) (a : Int) : BodM (D.del (ik a)) (K.filter fun b => !(b == a)) := by
  refine ⟨h.km.del a, fun b hb z => ?_⟩
  obtain ⟨h1, h2⟩ := List.mem_filter.1 hb
  have e : b ≠ a := by simpa using h2
  rw [atKey_del_other (ik_ne e)]
  exact h.at_ b h1 z
theorem BodM.look {D : DataW Unit} {K : List Int} (h : BodM D K) {a c : Int} (hc : D.atKey (ik a) zeroU = .lit (.int .i64 c)) : (a ∈ K ∧ c = 1) ∨ (a ∉ K ∧ c = 0) := by
  by_cases ha : a ∈ K
  · rw [h.at_ a ha] at hc
    injection hc with hc
    injection hc with _ hc
    exact .inl ⟨ha, hc.symm⟩
  · rw [atKey_of_not_has (h.km.no ha)] at hc
    injection hc with hc
    injection hc with _ hc
    exact .inr ⟨ha, hc.symm⟩
def pairU (j : Jt) : DataW Unit := .agg [.lit (.int .i64 j.a), .lit (.int .i64 j.b)]
def pairV (p : Int × Int) : Value := .agg #[.int .i64 p.1, .int .i64 p.2]
/-- how a pair reads -/
def pairElem (v : Value) : Option (DataW Unit × List MemPlace) :=
  match v with
  | .agg cs => (match cs.toList with | [.int .i64 a, .int .i64 b] => some (.agg [.lit (.int .i64 a), .lit (.int .i64 b)], []) | _ => none)
  | _ => none
theorem pairElem_mk (a b : Int) : pairElem (.agg #[.int .i64 a, .int .i64 b]) = some (.agg [.lit (.int .i64 a), .lit (.int .i64 b)], []) := rfl
theorem pairElem_inv {v : Value} {y : DataW Unit × List MemPlace} (h : pairElem v = some y) : ∃ p : Int × Int, v = pairV p ∧ y = (.agg [.lit (.int .i64 p.1), .lit (.int .i64 p.2)], []) := by
  unfold pairElem at h
  split at h
  · rename_i cs
    split at h
    · rename_i a b e
      cases h
      refine ⟨(a, b), ?_, rfl⟩
      unfold pairV
      congr 1
      exact Array.ext' e
    · cases h
  · cases h
structure JoM (D : DataW Unit) (J : List Jt) : Prop where
  km : KM D (J.map (·.id))
  at_ : ∀ j ∈ J, ∀ z, D.atKey (ik j.id) z = pairU j
theorem joM_nil : JoM (.map []) [] := ⟨km_nil, fun a h => (by cases h)⟩
theorem JoM.put {D : DataW Unit} {J : List Jt} (h : JoM D J) (j : Jt) (hj : j.id ∉ J.map (·.id)) : JoM (D.put (ik j.id) (pairU j)) (J ++ [j]) := by
  refine ⟨by rw [List.map_append]; exact h.km.put j.id _, fun b hb z => ?_⟩
  rcases List.mem_append.1 hb with hb | hb
  · have e : b.id ≠ j.id := fun e => hj (e ▸ List.mem_map.2 ⟨b, hb, rfl⟩)
    rw [atKey_put_other (ik_ne e)]
    exact h.at_ b hb z
  · rw [List.mem_singleton.1 hb]
    exact atKey_put_same (Tidy.isMap' h.km.tidy) (ik_key _) _ _
theorem JoM.del {D : DataW Unit} {J : List Jt} (h : JoM D J) (a : Int) : JoM (D.del (ik a)) (J.filter fun x => !isJ a x) := by
  refine ⟨(h.km.del a).same fun b => ?_, fun b hb z => ?_⟩
  · simp only [List.mem_filter, List.mem_map, isJ]
    constructor
    · rintro ⟨⟨j, h1, rfl⟩, h2⟩
      exact ⟨j, ⟨h1, h2⟩, rfl⟩
    · rintro ⟨j, ⟨h1, h2⟩, rfl⟩
      exact ⟨⟨j, h1, rfl⟩, h2⟩
  · obtain ⟨h1, h2⟩ := List.mem_filter.1 hb
    have e : b.id ≠ a := by simpa [isJ] using h2
    rw [atKey_del_other (ik_ne e)]
    exact h.at_ b h1 z
theorem JoM.has {D : DataW Unit} {J : List Jt} (h : JoM D J) (a : Int) : Maps.has D (ik a) = true ↔ ∃ x ∈ J, x.id = a := by
  rw [h.km.has]
  constructor
  · rintro ⟨b, hb, e⟩
    obtain ⟨j, hj, rfl⟩ := List.mem_map.1 hb
    exact ⟨j, hj, by injection e with _ e; exact e.symm⟩
  · rintro ⟨j, hj, rfl⟩
    exact ⟨j.id, List.mem_map.2 ⟨j, hj, rfl⟩, rfl⟩
theorem JoM.of {D : DataW Unit} {J J' : List Jt} (h : JoM D J) (e : J = J') : JoM D J' := e ▸ h
/-- what is left of the joints while the map is gone through -/
def leftJ (id : Int) (left : Lit → Bool) (J : List Jt) : List Jt := J.filter fun j => !goneJ id j || left (ik j.id)
theorem leftJ_all {id : Int} {left : Lit → Bool} {J : List Jt} (h : ∀ j ∈ J, left (ik j.id) = true) : leftJ id left J = J :=
  List.filter_eq_self.2 fun j hj => by simp [h j hj]
theorem leftJ_none {id : Int} {left : Lit → Bool} {J : List Jt} (h : ∀ kl, left kl = false) : leftJ id left J = J.filter fun j => !goneJ id j := by
  unfold leftJ
  congr 1
  funext j
  simp [h]
theorem sameKey_ik (a b : Int) : (ik a).sameKey (ik b) = (a == b) := by
  by_cases e : a = b
  · subst e
    simp [WideAt.sameKey_self (ik_key a)]
  · have h1 : ¬ (ik a).sameKey (ik b) = true := fun h => ik_ne e (WideAt.sameKey_eq h)
    rw [Bool.eq_false_iff.2 h1]
    simpa using e
/-- the entry x has come -/
theorem leftJ_step {id : Int} {left : Lit → Bool} {J : List Jt} (hn : (J.map (·.id)).Pairwise (· < ·)) {j : Jt} (hj : j ∈ J) (hl : left (ik j.id) = true) :
    (goneJ id j = true → leftJ id (fun z => left z && !z.sameKey (ik j.id)) J = (leftJ id left J).filter fun x => !isJ j.id x) ∧
    (goneJ id j = false → leftJ id (fun z => left z && !z.sameKey (ik j.id)) J = leftJ id left J) := by
  have one : ∀ x ∈ J, x.id = j.id → x = j := by
    intro x hx e
    obtain ⟨i, hi⟩ := List.mem_iff_getElem?.1 hx
    obtain ⟨k, hk⟩ := List.mem_iff_getElem?.1 hj
    have hp := List.pairwise_iff_getElem.1 hn
    obtain ⟨li, ei⟩ := List.getElem?_eq_some_iff.1 hi
    obtain ⟨lk, ek⟩ := List.getElem?_eq_some_iff.1 hk
    rcases Nat.lt_trichotomy i k with h | h | h
    · have := hp i k (by simpa using li) (by simpa using lk) h
      simp only [List.getElem_map, ei, ek] at this
      omega
    · subst h
      rw [← ei, ← ek]
    · have := hp k i (by simpa using lk) (by simpa using li) h
      simp only [List.getElem_map, ei, ek] at this
      omega
  constructor
  · intro hg
    unfold leftJ
    rw [List.filter_filter]
    refine List.filter_congr fun x hx => ?_
    show (!goneJ id x || (left (ik x.id) && !(ik x.id).sameKey (ik j.id))) = _
    rw [sameKey_ik]
    by_cases e : x.id = j.id
    · rw [one x hx e]
      simp [hg, isJ]
    · have : (x.id == j.id) = false := by simpa using e
      simp [this, isJ, Bool.and_comm]
  · intro hg
    unfold leftJ
    refine List.filter_congr fun x hx => ?_
    show (!goneJ id x || (left (ik x.id) && !(ik x.id).sameKey (ik j.id))) = _
    rw [sameKey_ik]
    by_cases e : x.id = j.id
    · rw [one x hx e]
      simp [hg]
    · have : (x.id == j.id) = false := by simpa using e
      simp [this]
theorem mem_leftJ {id : Int} {left : Lit → Bool} {J : List Jt} {j : Jt} (h : j ∈ leftJ id left J) : j ∈ J := (List.mem_filter.1 h).1

/-! ### what turns -/
theorem mapTurned_but {w v : World} {b : Nat} (h : w.mapTurned v b) : But (fun g => g = b) w v :=
  ⟨h.grown.os, h.grown.tape, h.grown.output, h.grown.size, fun i hi hx => h.grown.block i hi (fun e => hx (Option.some.inj e)), h.frozen⟩
theorem frozen_iter {w : World} {r : Nat} {a b c d} (h : w.heap[r]? = some (.mapIter a b c d)) (o : Nat) (s) : w.frozen? ⟨r, o, s⟩ = false := by
  simp [World.frozen?, h]
theorem frozen_beyond {w : World} {r : Nat} (h : w.heap.size ≤ r) (o : Nat) (s) : w.frozen? ⟨r, o, s⟩ = false := by
  simp [World.frozen?, Array.getElem?_eq_none h]
theorem frozen_same {w v : World} {a : Addr} (h : v.heap[a.block]? = w.heap[a.block]?) : v.frozen? a = w.frozen? a := by
  simp [World.frozen?, h]
theorem ranges_iter {P : Program} {k : TypeId} {R : Value → Option (DataW Unit × List MemPlace)} {w : World} {b r n : Nat} {D : DataW Unit} {left : Lit → Bool} {cnt : Nat} (h : w.ranges P k R b r n D left cnt) : ∃ x y z t, w.heap[r]? = some (.mapIter x y z t) := by
  obtain ⟨es, clock, since, seen, c0, _, _, _, _, h, _⟩ := h
  exact ⟨_, _, _, _, h⟩
theorem but_range {P : Program} {k : TypeId} {R : Value → Option (DataW Unit × List MemPlace)} {w v : World} {b n : Nat} {D : DataW Unit} {left : Lit → Bool} {cnt : Nat} {X : Nat → Prop} (h : v.ranges P k R b w.heap.size n D left cnt) (hg : w.grownBy v none) (hs : v.heap.size = w.heap.size + 1) : But X w v := by
  refine ⟨hg.os, hg.tape, hg.output, hg.size, fun i hi _ => hg.block i hi (by simp), fun a => ?_⟩
  obtain ⟨x, y, z, t, hi⟩ := ranges_iter h
  obtain ⟨ab, ao, asn⟩ := a
  rcases Nat.lt_trichotomy ab w.heap.size with hl | hl | hl
  · exact frozen_same (hg.block ab hl (by simp))
  · subst hl
    rw [frozen_iter hi, frozen_beyond (Nat.le_refl _)]
  · rw [frozen_beyond (by omega), frozen_beyond (by omega)]
theorem but_next {P : Program} {k : TypeId} {R : Value → Option (DataW Unit × List MemPlace)} {w v : World} {b r n n' : Nat} {D D' : DataW Unit} {left left' : Lit → Bool} {cnt cnt' : Nat} (h0 : w.ranges P k R b r n D left cnt) (h : v.ranges P k R b r n' D' left' cnt') (hg : w.grownBy v (some r)) (hs : v.heap.size = w.heap.size) : But (fun g => g = r) w v := by
  refine ⟨hg.os, hg.tape, hg.output, hg.size, fun i hi hx => hg.block i hi (fun e => hx (Option.some.inj e)), fun a => ?_⟩
  obtain ⟨x, y, z, t, hi⟩ := ranges_iter h
  obtain ⟨x0, y0, z0, t0, hi0⟩ := ranges_iter h0
  obtain ⟨ab, ao, asn⟩ := a
  by_cases hr : ab = r
  · subst hr
    rw [frozen_iter hi, frozen_iter hi0]
  · by_cases hl : ab < w.heap.size
    · exact frozen_same (hg.block ab hl (fun e => hr (Option.some.inj e)))
    · rw [frozen_beyond (by omega), frozen_beyond (by omega)]
theorem ownsMap_but {P : Program} {k : TypeId} {R : Value → Option (DataW Unit × List MemPlace)} {w v : World} {b n : Nat} {D : DataW Unit} {X : Nat → Prop} (h : w.ownsMap P k R b n D) (kk : But X w v) (hb : ¬ X b) : v.ownsMap P k R b n D := by
  have hlt := h.lt
  obtain ⟨es, clock, hb', F, hs, hD⟩ := h
  exact ⟨es, clock, (kk.block b hlt hb).trans hb', F, hs, hD⟩
theorem ownsMap_made' {w : World} : But Nil0 w (w.alloc (.map #[] 0)) := by
  refine ⟨rfl, rfl, rfl, by simp, fun i hi _ => Below.heap_alloc w _ i hi, fun a => ?_⟩
  obtain ⟨ab, ao, asn⟩ := a
  rcases Nat.lt_trichotomy ab w.heap.size with hl | hl | hl
  · exact frozen_same (Below.heap_alloc w _ ab hl)
  · subst hl
    rw [frozen_beyond (Nat.le_refl _)]
    have : (w.alloc (.map #[] 0)).heap[w.heap.size]? = some (.map #[] 0) := by show (w.heap.push _)[w.heap.size]? = _; simp
    unfold World.frozen?
    simp only [this]
  · rw [frozen_beyond (by simp; omega), frozen_beyond (by omega)]
theorem DesAt.but {X : Nat → Prop} {w v : World} {ao : Option Addr} {l : List De} (h : DesAt w ao l) (k : Below w.heap.size w v) : DesAt v ao l :=
  ⟨h.1.below k, fun d hd => ⟨(h.2 d hd).1, fun hn => by
    obtain ⟨b, off, e, hp⟩ := (h.2 d hd).2 hn
    exact ⟨b, off, e, fun i hi => ⟨(k.cell (World.block_lt_of_cell? _ _ (hp i hi).1)).trans (hp i hi).1, (k.cell (World.block_lt_of_cell? _ _ (hp i hi).2)).trans (hp i hi).2⟩⟩⟩⟩
end Go.Proofs.Ytggpchclfikneaa.Fx
