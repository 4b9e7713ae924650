/- WoL -/
import Derived.Test.YtfncelifflebbaaGreatV6
import Derived.Test.YtfncelifflebbaaGreatV14
import Derived.Laws.IdiomCopy
import Derived.ArgAppend
import Derived.Lib.SliceRun

/- Rows of elements that are written; append to a full slice; clear. -/





namespace Go.Proofs.YtfncelifflebbaaGreat.Fx
open Go.ChangeShapes Go.WideShapes Go.ChangeAt Go.RowKit
set_option linter.unusedVariables false

theorem Has.setCells {g : Nat} {t : TypeId} : ∀ (vs : List Value) (o : Nat) {w : World} {A : Array Value}, Has w g t A → ∃ A', Has (w.setCells g o vs) g t A' ∧ A'.size = A.size ∧ (∀ j, (j < o ∨ o + vs.length ≤ j) → A'[j]? = A[j]?) ∧ (∀ m v, vs[m]? = some v → o + m < A.size → A'[o + m]? = some v)
  | [], o, w, A, h => ⟨A, h, rfl, fun _ _ => rfl, fun m v hv => by simp at hv⟩
  | x :: vs, o, w, A, h => by
    obtain ⟨A', h1, h2, h3, h4⟩ := Has.setCells vs (o + 1) (h.put o x)
    refine ⟨A', h1, by rw [h2]; simp, fun j hj => ?_, fun m v hv hm => ?_⟩
    · rw [h3 j (by simp at hj; omega), Array.getElem?_setIfInBounds_ne (by simp at hj; omega)]
    · match m, hv with
      | 0, hv =>
        have e : x = v := by simpa using hv
        subst e
        rw [h3 (o + 0) (by omega)]
        simp [show o < A.size by omega]
      | m + 1, hv =>
        have := h4 m v (by simpa using hv) (by simp; omega)
        rw [← this]
        congr 1
        omega
theorem But.setCells {X : Nat → Prop} {g : Nat} (hg : X g) : ∀ (vs : List Value) (o : Nat) {a w : World}, But X a w → But X a (w.setCells g o vs)
  | [], _, _, _, h => h
  | x :: vs, o, a, w, h => But.setCells hg vs (o + 1) (h.put (p := ⟨g, o, none⟩) (.inl hg) x)
section
variable {α : Type} {enc : α → List Value} {k : Nat}
theorem LsB.newsL (hk : ∀ x, (enc x).length = k) {w : World} {b off : Nat} {l : List α} (h : LsB enc k w b off l) : ∀ j u, (flatE enc l)[j]? = some u → w.cell? ((⟨b, off, none⟩ : Addr).add j) = some u := fun j u hu => by
  rw [Addr.add_lit]
  exact LsT.flat_at hk h j u hu
def RowL (enc : α → List Value) (k : Nat) (w : World) (g : Nat) (t : TypeId) (n : Nat) (l : List α) : Prop :=
  l.length = n ∧ ∃ A, Has w g t A ∧ n * k ≤ A.size ∧ ∀ a x, l[a]? = some x → ∀ b v, (enc x)[b]? = some v → A[a * k + b]? = some v
variable {w v : World} {g n : Nat} {t : TypeId} {l : List α}
theorem RowL.here (h : RowL enc k w g t n l) : g < w.heap.size := by obtain ⟨_, A, hA, _⟩ := h; exact hA.here
theorem RowL.free (h : RowL enc k w g t n l) (i : Nat) : w.frozen? ⟨g, i, none⟩ = false := by obtain ⟨_, A, hA, _⟩ := h; exact hA.free i
theorem RowL.is_ (h : RowL enc k w g t n l) {j : Nat} (hj : j < n * k) : (w.cell? ⟨g, j, none⟩).isSome = true := by
  obtain ⟨_, A, hA, hs, _⟩ := h
  rw [hA.at_]
  simp; omega
theorem RowL.lsB (h : RowL enc k w g t n l) : LsB enc k w g 0 l := by
  obtain ⟨_, A, hA, _, h⟩ := h
  intro i x hx j u hu
  rw [Nat.zero_add, hA.at_]
  exact h i x hx j u hu
theorem RowL.lsT (h : RowL enc k w g t n l) : LsT enc k w (some ⟨g, 0, none⟩) l := fun _ => ⟨g, 0, rfl, h.here, h.lsB⟩
theorem RowL.but {X : Nat → Prop} (h : RowL enc k w g t n l) (kk : But X w v) (hx : ¬ X g) : RowL enc k v g t n l := by
  obtain ⟨h0, A, hA, h⟩ := h
  exact ⟨h0, A, hA.but kk hx, h⟩
theorem RowL.stays {B : Nat} (h : RowL enc k w g t n l) (kk : Made B w v) (hB : g < B) : RowL enc k v g t n l := by
  obtain ⟨h0, A, hA, h⟩ := h
  exact ⟨h0, A, hA.stays kk hB, h⟩
theorem RowL.set (hk : ∀ x, (enc x).length = k) (h : RowL enc k w g t n l) {i : Nat} (hi : i < n) (x : α) : RowL enc k (w.setCells g (i * k) (enc x)) g t n (l.set i x) := by
  obtain ⟨h0, A, hA, hs, h⟩ := h
  obtain ⟨A', h1, h2, h3, h4⟩ := Has.setCells (enc x) (i * k) hA
  refine ⟨by rw [List.length_set]; exact h0, A', h1, by rw [h2]; exact hs, fun a y hy b u hu => ?_⟩
  have hb : b < k := by rw [← hk y]; exact (List.getElem?_eq_some_iff.1 hu).1
  have han : a < n := by rw [← h0, ← List.length_set (i := i) (a := x)]; exact (List.getElem?_eq_some_iff.1 hy).1
  by_cases e : i = a
  · subst e
    rw [List.getElem?_set_self (by rw [h0]; exact hi)] at hy
    cases hy
    refine h4 b u hu ?_
    have := Nat.mul_le_mul_right k (show i + 1 ≤ n from hi)
    rw [Nat.add_mul, Nat.one_mul] at this
    omega
  · rw [List.getElem?_set_ne e] at hy
    rw [h3 (a * k + b) ?_]
    · exact h a y hy b u hu
    · rw [hk]
      rcases Nat.lt_or_gt_of_ne e with hh | hh
      · have := Nat.mul_le_mul_right k (show i + 1 ≤ a from hh)
        rw [Nat.add_mul, Nat.one_mul] at this
        omega
      · have := Nat.mul_le_mul_right k (show a + 1 ≤ i from hh)
        rw [Nat.add_mul, Nat.one_mul] at this
        omega
theorem RowL.cut (hk : ∀ x, (enc x).length = k) (h : RowL enc k w g t n l) {i : Nat} (hi : i ≤ n) (vs : List Value) : RowL enc k (w.setCells g (i * k) vs) g t i (l.take i) := by
  obtain ⟨h0, A, hA, hs, h⟩ := h
  obtain ⟨A', h1, h2, h3, h4⟩ := Has.setCells vs (i * k) hA
  refine ⟨by rw [List.length_take]; omega, A', h1, by rw [h2]; exact Nat.le_trans (Nat.mul_le_mul_right k hi) hs, fun a y hy b u hu => ?_⟩
  have hb : b < k := by rw [← hk y]; exact (List.getElem?_eq_some_iff.1 hu).1
  have hai : a < i := by
    have := (List.getElem?_eq_some_iff.1 hy).1
    rw [List.length_take] at this
    omega
  rw [List.getElem?_take, if_pos hai] at hy
  rw [h3 (a * k + b) (.inl ?_)]
  · exact h a y hy b u hu
  · have := Nat.mul_le_mul_right k (show a + 1 ≤ i from hai)
    rw [Nat.add_mul, Nat.one_mul] at this
    omega
theorem RowL.of_own (hk : ∀ x, (enc x).length = k) {base n : Nat} {t : TypeId} {x : Value} (hn : l.length = n) (h : w.ownsRow base t k x n (flatE enc l)) (h0 : 0 < n) :
    ∃ g c, x = .slice (some ⟨g, 0, none⟩) n c ∧ base ≤ g ∧ n ≤ c ∧ c ≤ maxLen ∧ RowL enc k w g t n l := by
  rcases h.2 with ⟨_, e⟩ | ⟨g, cap, cur, hv, hb, hh, hc, hm, hs, ht⟩
  · omega
  · refine ⟨g, cap, hv, hb, hc, hm, hn, cur, hh, by rw [hs]; exact Nat.mul_le_mul_right k hc, fun i x hi j u hu => ?_⟩
    have hj : j < k := by rw [← hk x]; exact (List.getElem?_eq_some_iff.1 hu).1
    have hi' : i < l.length := (List.getElem?_eq_some_iff.1 hi).1
    have hlt : i * k + j < n * k := by
      have := Nat.mul_le_mul_right k (show i + 1 ≤ n by omega); rw [Nat.add_mul, Nat.one_mul] at this; omega
    have e := flatE_at hk l i x hi j hj
    rw [hu, ← ht, List.getElem?_take, if_pos hlt] at e
    simpa using e
end
section
variable {P : Program}
theorem wpList_append_full {w : World} {ops : Array Oper} {rest : List Oper} {o : Oper} {a : Act} {Q : Exit → Act → World → Prop} (hgd : o.guard = none) (s x : Operand) (t : TypeId)
    (ho : o.op = .call { callee := .builtin .append, args := #[s, x], argTypes := #[t, t] })
    (e : TypeId) (i : TypeInfo) (z : Value) (size bytes : Nat) (ht : P.underlying t = some (.slice e)) (hi : P.info? e = some i) (hz : i.zero = some z)
    (hsize : i.size = size) (hby : i.bytes = bytes) (hzs : z.cells.size = size) (hsz : 0 < size)
    (b : Addr) (n : Nat) (xs : List Value) (hs : a.eval s = .slice (some b) n n) (hxl : xs.length = n * size) (hxs : ∀ j u, xs[j]? = some u → w.cell? (b.add j) = some u)
    (ad : Addr) (m c : Nat) (news : List Value) (hx : a.eval x = .slice (some ad) m c) (hl : news.length = m * size) (hnews : ∀ j u, news[j]? = some u → w.cell? (ad.add j) = some u) (h1 : ∀ u ∈ news, u.oneCell' = true)
    (h63 : n + m ≤ maxLen) (hbytes : (n + m) * bytes ≤ 140737488355328) (hm : 0 < m)
    (h : ∀ v' w', w'.ownsRow w.heap.size e size v' (n + m) (xs ++ news) → Made w.heap.size w w' → wpList P ops Q rest (a.put o.dst v') w') : wpList P ops Q (o :: rest) a w := by
  refine wpList_plain hgd fun _ hK => ?_
  obtain ⟨v', w', hr, h2, h3⟩ := run_append_arg_grows (P := P) w t o.type e i z size bytes ht hi hz hsize hby hzs hsz b n n xs hxl hxs ad m c news hl hnews (by omega) h63 hbytes
  have hf : ∀ x, w'.frozen? x = w.frozen? x := by
    subst hsize
    subst hby
    unfold maxLen at h63
    have hr2 := run_append_grow (P := P) w t o.type e i z ht hi hz b n n xs hxl hxs ad m c news hl hnews (by omega) (by omega) (growslice_fits (by omega) hbytes)
    rw [hr] at hr2
    injection hr2 with _ h5
    subst h5
    intro x
    exact (frozen?_alloc_cells _ _ _ _).trans (World.frozen?_drew ..)
  have hM : Made w.heap.size w w' := (Made.rfl_ _ _).app h3 hf (Nat.le_refl _) (fun k hk => by cases hk)
  unfold Oper.wp execOp
  simp only [ho, resolve, invoke, builtin, Sem.run_bind, Sem.run_pure, Result.andThen_ok, List.map_toArray, List.map_cons, List.map_nil, hs, hx, hr]
  exact hK _ _ (h v' w' h2 hM)
end
end Go.Proofs.YtfncelifflebbaaGreat.Fx

