/- Maps of pairs; the statements' own all. -/
import Derived.Test.YtmfkcdinfahjlaaSwF
import Derived.Maps.OwnOps
import Derived.Maps.OwnSet
import Derived.DeepKeys4
namespace Go.Proofs.Ytmfkcdinfahjlaa.Fx
open Go.ChangeShapes Go.WideShapes Go.ChangeAt Go.RowKit Go.Maps
set_option linter.unusedVariables false

def keyP (p : Int × Int) : Lit := .string (keyBytes [.int .i64 p.1, .int .i64 p.2])
theorem wf_i64 {a : Int} (h : I64 a) : (Lit.int .i64 a).wf = true := by
  unfold I64 at h
  simp [Lit.wf, IntKind.min, IntKind.max, IntKind.bits, IntKind.signed]
  omega
set_option maxRecDepth 100000 in
theorem key_pair (a b : Int) (ha : I64 a) (hb : I64 b) : keyOf Try.prog 58 (.agg #[.int .i64 a, .int .i64 b]) = some (keyP (a, b)) := by
  have u := Try.underlying58
  have u3 := Try.underlying3
  have c58 : Try.prog.cellsOf 58 = 2 := by kernel_rfl
  have c3 : Try.prog.cellsOf 3 = 1 := by kernel_rfl
  have h1 : Try.prog.keyType 58 = true := by kernel_rfl
  have h2 : (Value.agg #[.int .i64 a, .int .i64 b]).formed Try.prog 58 = true := by simp [Value.formed, u, c58]
  obtain ⟨m, hm⟩ : ∃ m, Try.prog.types.size + 1 = m + 2 := ⟨Try.prog.types.size - 1, by have : 0 < Try.prog.types.size := of_decide_eq_true (by kernel_rfl); omega⟩
  have wa := wf_i64 ha
  have wb := wf_i64 hb
  unfold keyOf
  rw [u]
  simp only [h1, h2, Bool.and_self, if_true]
  rw [hm]
  have e : Try.prog.keyLits (m + 2) 58 (Value.agg #[.int .i64 a, .int .i64 b]).cells.toList = some [.int .i64 a, .int .i64 b] := by
    rw [show m + 2 = (m + 1) + 1 from rfl]
    unfold Program.keyLits
    rw [u]
    simp [Value.cells, c58, c3, Program.keyLits, u3, wa, wb, List.range, List.range.loop]
  rw [e]
  rfl
set_option maxRecDepth 100000 in
theorem law58 : Keyed Try.prog 58 := Keyed.of_law (deep_law_laid (by kernel_rfl) (m := 2) (by omega) (of_decide_eq_true (by kernel_rfl)) (by kernel_rfl) (by rw [Try.underlying58]))
theorem keyP_key {p : Int × Int} (h1 : I64 p.1) (h2 : I64 p.2) : WideAt.IsKeyLit (keyP p) := law58.key (key_pair p.1 p.2 h1 h2)
set_option maxRecDepth 100000 in
theorem keyP_inj {p q : Int × Int} (h1 : I64 p.1) (h2 : I64 p.2) (h3 : I64 q.1) (h4 : I64 q.2) (h : keyP p = keyP q) : p = q := by
  have a := key_pair p.1 p.2 h1 h2
  have b := key_pair q.1 q.2 h3 h4
  rw [show ((p.1, p.2) : Int × Int) = p from rfl, h] at a
  have h5 := law58.inj a b
  have h6 : p.1 = q.1 ∧ p.2 = q.2 := by simpa using h5
  exact Prod.ext h6.1 h6.2
def oneD : DataW Unit := .lit (.int .i64 1)
def mapD (L : List (Int × Int)) : DataW Unit := setOf oneD (L.map keyP)
theorem mapD_snoc (L : List (Int × Int)) (p : Int × Int) : mapD (L ++ [p]) = (mapD L).put (keyP p) oneD := by
  unfold mapD
  rw [List.map_append]
  exact setOf_snoc _ _ _
theorem atKey_fold (u z : DataW Unit) (k : Lit) (hk : WideAt.IsKeyLit k) : ∀ (acc : List Lit) (m : DataW Unit), IsMap m → (k ∈ acc ∨ m.atKey k z = u) → (acc.foldl (fun m x => m.put x u) m).atKey k z = u
  | [], m, _, h => by simpa using h
  | x :: acc, m, hm, h => by
    refine atKey_fold u z k hk acc (m.put x u) (hm.put x u) ?_
    by_cases hx : k = x
    · subst hx
      exact .inr (atKey_put_same hm hk u z)
    · rcases h with h | h
      · rcases List.mem_cons.1 h with h | h
        · exact absurd h hx
        · exact .inl h
      · exact .inr (by rw [atKey_put_other hx]; exact h)
theorem size_fold' (u : DataW Unit) : ∀ (acc : List Lit) (m : DataW Unit), Tidy m → (∀ x ∈ acc, WideAt.IsKeyLit x) → (∀ x ∈ acc, has m x = false) → acc.Nodup → size (acc.foldl (fun m x => m.put x u) m) = size m + acc.length
  | [], m, _, _, _, _ => rfl
  | x :: acc, m, hm, hk, hh, hn => by
    obtain ⟨n1, n2⟩ := List.nodup_cons.1 hn
    have e := size_fold' u acc (m.put x u) (hm.put (hk x (List.mem_cons_self ..)) u) (fun y hy => hk y (List.mem_cons_of_mem _ hy)) (fun y hy => by
      have hne : y ≠ x := fun e => n1 (e ▸ hy)
      rw [has_put_other hne]
      exact hh y (List.mem_cons_of_mem _ hy)) n2
    rw [List.foldl_cons, e, size_put hm, hh x (List.mem_cons_self ..)]
    simp
    omega
def PsI (L : List (Int × Int)) : Prop := ∀ p ∈ L, I64 p.1 ∧ I64 p.2
theorem mapD_at {L : List (Int × Int)} (hI : PsI L) {p : Int × Int} (hp : p ∈ L) (z : DataW Unit) : (mapD L).atKey (keyP p) z = oneD :=
  atKey_fold oneD z (keyP p) (keyP_key (hI p hp).1 (hI p hp).2) _ _ isMap_empty (.inl (List.mem_map.2 ⟨p, hp, rfl⟩))
theorem nodup_map_on {α β : Type} {f : α → β} : ∀ {l : List α}, (∀ x ∈ l, ∀ y ∈ l, f x = f y → x = y) → l.Nodup → (l.map f).Nodup
  | [], _, _ => by simp
  | x :: l, h, hn => by
    obtain ⟨h1, h2⟩ := List.nodup_cons.1 hn
    rw [List.map_cons, List.nodup_cons]
    refine ⟨fun hm => ?_, nodup_map_on (fun a ha b hb => h a (List.mem_cons_of_mem _ ha) b (List.mem_cons_of_mem _ hb)) h2⟩
    obtain ⟨y, hy, e⟩ := List.mem_map.1 hm
    have := h y (List.mem_cons_of_mem _ hy) x (List.mem_cons_self ..) e
    exact h1 (this ▸ hy)
theorem mapD_size {L : List (Int × Int)} (hI : PsI L) (hn : L.Nodup) : size (mapD L) = L.length := by
  unfold mapD setOf
  rw [size_fold' oneD _ _ tidy_empty (fun x hx => by obtain ⟨p, hp, rfl⟩ := List.mem_map.1 hx; exact keyP_key (hI p hp).1 (hI p hp).2) (fun x hx => rfl)
    (nodup_map_on (fun a ha b hb e => keyP_inj (hI a ha).1 (hI a ha).2 (hI b hb).1 (hI b hb).2 e) hn)]
  rw [List.length_map]
  show 0 + _ = _
  omega

/-! ### the pairs as 'all' comes to them -/
def allP (l : List It) : Nat → List (Int × Int)
  | 0 => []
  | i + 1 => allP l i ++ (match l[i]? with | some a => withF a (l.take i) | none => [])
theorem allP_succ {l : List It} {i : Nat} {a : It} (h : l[i]? = some a) : allP l (i + 1) = allP l i ++ withF a (l.take i) := by
  show allP l i ++ _ = _
  rw [h]
theorem withF_snoc (a b : It) (l : List It) : withF a (l ++ [b]) = withF a l ++ (if taken a b then [pairOf a b] else []) := by
  unfold withF
  rw [List.filter_append, List.map_append]
  congr 1
  rw [List.filter_cons, List.filter_nil]
  split <;> rfl
theorem allP_perm (l : List It) : ∀ i, i ≤ l.length → (allP l i).Perm (collect (l.take i))
  | 0, _ => by simp [allP, collect]
  | i + 1, h => by
    have ha : l[i]? = some l[i] := List.getElem?_eq_getElem (by omega)
    rw [allP_succ ha]
    have e : l.take (i + 1) = l.take i ++ [l[i]] := by rw [List.take_add_one, ha]; rfl
    rw [e]
    have h1 : (collect (l.take i ++ [l[i]])).Perm (withF l[i] (l.take i) ++ collect (l.take i)) := collect_perm (List.perm_append_singleton _ _)
    exact (List.perm_append_comm.trans (List.Perm.append_left _ (allP_perm l i (by omega)))).trans h1.symm
theorem collect_i {l : List It} (h : ItsI l) : PsI (collect l) := by
  intro p hp
  obtain ⟨i, j, a, b, _, ha, hb, _, rfl⟩ := collect_mem hp
  have h1 := (h a (List.mem_of_getElem? ha)).1
  have h2 := (h b (List.mem_of_getElem? hb)).1
  unfold I64 at h1 h2
  unfold pairOf I64
  simp only []
  omega
theorem ownsMap_below {P : Program} {k : TypeId} {R : Value → Option (DataW Unit × List MemPlace)} {w v : World} {b n : Nat} {D : DataW Unit} (h : w.ownsMap P k R b n D) (kk : Below w.heap.size w v) : v.ownsMap P k R b n D := by
  have hlt := h.lt
  obtain ⟨es, clock, hb, F, hs, hD⟩ := h
  exact ⟨es, clock, (kk.block b hlt).trans hb, F, hs, hD⟩
end Go.Proofs.Ytmfkcdinfahjlaa.Fx
