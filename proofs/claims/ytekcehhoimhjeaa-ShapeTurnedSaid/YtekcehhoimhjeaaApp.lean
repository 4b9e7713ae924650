/- Rows that a call makes: append leaves every mark as it was; rows of pairs of numbers. -/
import Derived.Test.YtekcehhoimhjeaaFlo
import Derived.Laws.AppendOwn
namespace Go.Proofs.Ytekcehhoimhjeaa.Fx
open Go.ChangeShapes Go.WideShapes Go.ChangeAt Go.RowKit
set_option linter.unusedVariables false

theorem frozen_setRow (w : World) (g : Nat) (cs : Array Value) (a : Addr) : (w.setRow g cs).frozen? a = w.frozen? a := by
  by_cases h : g = a.block
  · subst h
    unfold World.frozen? World.setRow
    simp only [Array.getElem?_modify, if_true]
    cases w.heap[a.block]? with
    | none => rfl
    | some o => cases o <;> rfl
  · exact World.frozen?_of_block (setRow_other w g a.block cs (fun e => h e.symm))

section
variable {P : Program} (w : World)
/-- append to a row of the call's own leaves every mark as it was -/
theorem append_frozen (base : Nat) (t ty e : TypeId) (i : TypeInfo) (z : Value) (size bytes : Nat) (ht : P.underlying t = some (.slice e)) (hi : P.info? e = some i) (hz : i.zero = some z)
    (hsize : i.size = size) (hby : i.bytes = bytes) (hsz : 0 < size)
    (v : Value) (n : Nat) (xs : List Value) (hown : w.ownsRow base e size v n xs)
    (a : Addr) (m c : Nat) (news : List Value) (hl : news.length = m * size) (hnews : ∀ j u, news[j]? = some u → w.cell? (a.add j) = some u) (h1 : ∀ u ∈ news, u.oneCell' = true)
    (h63 : n + m ≤ maxLen) (hbytes : (n + m) * bytes ≤ 140737488355328) (hm : 0 < m)
    {v' : Value} {w' : World} (hrun : (Builtin.append_ #[t, t] ty #[v, .slice (some a) m c]).run P w = .ok v' w') : ∀ x, w'.frozen? x = w.frozen? x := by
  subst hsize
  subst hby
  unfold maxLen at h63
  rcases hown.2 with ⟨rfl, rfl⟩ | ⟨g, cap, cur, rfl, _, hg, hnc, _, hcs, _⟩
  · have hr := run_append_nil (P := P) w t ty e i z ht hi hz a m c news hl hnews hm (by omega) (by rw [Nat.zero_add] at hbytes; omega)
    rw [hr] at hrun
    injection hrun with _ h2
    subst h2
    intro x
    exact (frozen?_alloc_cells _ _ _ _).trans (World.frozen?_drew ..)
  · by_cases hroom : n + m ≤ cap
    · have hfit : n * i.size + news.length ≤ cur.size := by rw [hl, hcs, ← Nat.add_mul]; exact Nat.mul_le_mul_right _ hroom
      have hr := run_append_room (P := P) w t ty e i ht hi g n cap cur hg a m c news hl hnews h1 hroom hfit
      rw [hr] at hrun
      injection hrun with _ h2
      subst h2
      exact frozen_setRow _ _ _
    · have hr := run_append_grow (P := P) w t ty e i z ht hi hz ⟨g, 0, none⟩ n cap xs hown.1 (hown.cells (g := g) rfl) a m c news hl hnews (by omega) (by omega) (growslice_fits (by omega) hbytes)
      rw [hr] at hrun
      injection hrun with _ h2
      subst h2
      intro x
      exact (frozen?_alloc_cells _ _ _ _).trans (World.frozen?_drew ..)

theorem wpList_append_made {ops : Array Oper} {rest : List Oper} {o : Oper} {a : Act} {Q : Exit → Act → World → Prop} (hgd : o.guard = none) (s x : Operand) (t : TypeId)
    (ho : o.op = .call { callee := .builtin .append, args := #[s, x], argTypes := #[t, t] })
    (base : Nat) (e : TypeId) (i : TypeInfo) (z : Value) (size bytes : Nat) (ht : P.underlying t = some (.slice e)) (hi : P.info? e = some i) (hz : i.zero = some z)
    (hsize : i.size = size) (hby : i.bytes = bytes) (hzs : z.cells.size = size) (hsz : 0 < size)
    (v : Value) (n : Nat) (xs : List Value) (hs : a.eval s = v) (hown : w.ownsRow base e size v n xs)
    (ad : Addr) (m c : Nat) (news : List Value) (hx : a.eval x = .slice (some ad) m c) (hl : news.length = m * size) (hnews : ∀ j u, news[j]? = some u → w.cell? (ad.add j) = some u) (h1 : ∀ u ∈ news, u.oneCell' = true)
    (h63 : n + m ≤ maxLen) (hbytes : (n + m) * bytes ≤ 140737488355328) (hbase : base ≤ w.heap.size) (hm : 0 < m)
    (h : ∀ v' w', w'.ownsRow base e size v' (n + m) (xs ++ news) → w.grownBy w' v.ownBlock → (∀ p, w'.frozen? p = w.frozen? p) → wpList P ops Q rest (a.put o.dst v') w') : wpList P ops Q (o :: rest) a w := by
  refine wpList_plain hgd fun _ hK => ?_
  obtain ⟨v', w', hr, h2, h3, _⟩ := run_append_own (P := P) w base t o.type e i z size bytes ht hi hz hsize hby hzs hsz v n xs hown ad m c news hl hnews h1 h63 hbytes hbase
  have hf := append_frozen (P := P) w base t o.type e i z size bytes ht hi hz hsize hby hsz v n xs hown ad m c news hl hnews h1 h63 hbytes hm hr
  unfold Oper.wp execOp
  simp only [ho, resolve, invoke, builtin, Sem.run_bind, Sem.run_pure, Result.andThen_ok, List.map_toArray, List.map_cons, List.map_nil, hs, hx, hr]
  exact hK _ _ (h v' w' h2 h3 hf)
end

theorem Made.app {B : Nat} {a w w' : World} {row : Option Nat} (h : Made B a w) (hg : w.grownBy w' row) (hf : ∀ p, w'.frozen? p = w.frozen? p) (hB : B ≤ w.heap.size) (hr : ∀ k, row = some k → B ≤ k) : Made B a w' :=
  ⟨h.1.grown hg hB hr, fun x => (hf x).trans (h.2 x)⟩

theorem Made.at_ {B : Nat} {w v : World} (h : Made B w v) {p : Addr} {x : Value} (hp : p.block < B) (k : w.cell? p = some x) : v.cell? p = some x := (h.1.cell hp).trans k

theorem cell_more {w : World} {c : Array Value} {t : TypeId} {p : Addr} {x : Value} (k : w.cell? p = some x) : (w.alloc (.cells c t)).cell? p = some x := ((Made.rfl_ w.heap.size w).cells (Nat.le_refl _) c t).reads k
theorem cell_else {w : World} {p q : Addr} {x u : Value} (h : p.block ≠ q.block) (k : w.cell? p = some x) : (w.setCell q u).cell? p = some x := (World.cell?_of_block (Below.heap_setCell w q u p.block h)).trans k

/-! ### rows of pairs of numbers -/
/-- what lies in cell j of a row of pairs -/
def cellF (f : Nat → Int × Int) (j : Nat) : Value := if j % 2 = 0 then .int .i64 (f (j / 2)).1 else .int .i64 (f (j / 2)).2
def flat (f : Nat → Int × Int) (n : Nat) : List Value := (List.range (n * 2)).map (cellF f)
theorem flat_len (f : Nat → Int × Int) (n : Nat) : (flat f n).length = n * 2 := by simp [flat]
theorem flat_at (f : Nat → Int × Int) (n j : Nat) (h : j < n * 2) : (flat f n)[j]? = some (cellF f j) := by simp [flat, h]
theorem flat_zero (f : Nat → Int × Int) : flat f 0 = [] := rfl
theorem cellF_x (f : Nat → Int × Int) (i : Nat) : cellF f (i * 2) = .int .i64 (f i).1 := by
  unfold cellF; rw [if_pos (by omega), show i * 2 / 2 = i by omega]
theorem cellF_y (f : Nat → Int × Int) (i : Nat) : cellF f (i * 2 + 1) = .int .i64 (f i).2 := by
  unfold cellF; rw [if_neg (by omega), show (i * 2 + 1) / 2 = i by omega]
theorem flat_next (f : Nat → Int × Int) (n : Nat) {x y : Int} (hx : (f n).1 = x) (hy : (f n).2 = y) : flat f n ++ [.int .i64 x, .int .i64 y] = flat f (n + 1) := by
  have e : (n + 1) * 2 = n * 2 + 1 + 1 := by omega
  unfold flat
  rw [e, List.range_succ, List.range_succ]
  simp only [List.map_append, List.map_cons, List.map_nil, cellF_x, cellF_y, hx, hy, List.append_assoc, List.cons_append, List.nil_append]
theorem flat_one (f : Nat → Int × Int) (n : Nat) : ∀ u ∈ flat f n, u.oneCell' = true := by
  intro u hu
  obtain ⟨j, _, rfl⟩ := List.mem_map.1 hu
  unfold cellF; split <;> rfl

/-- the pairs lie there -/
def Pts (w : World) (b off n : Nat) (f : Nat → Int × Int) : Prop := ∀ i, i < n → w.cell? ⟨b, off + i * 2, none⟩ = some (.int .i64 (f i).1) ∧ w.cell? ⟨b, off + i * 2 + 1, none⟩ = some (.int .i64 (f i).2)
theorem Pts.kept {w v : World} {b off n : Nat} {f : Nat → Int × Int} (h : Pts w b off n f) (k : Made w.heap.size w v) : Pts v b off n f := fun i hi => ⟨k.reads (h i hi).1, k.reads (h i hi).2⟩
theorem Pts.stays {w v : World} {b off n B : Nat} {f : Nat → Int × Int} (h : Pts w b off n f) (k : Made B w v) (hb : b < B) : Pts v b off n f := fun i hi => ⟨(k.1.cell hb).trans (h i hi).1, (k.1.cell hb).trans (h i hi).2⟩
theorem Pts.here {w : World} {b off n : Nat} {f : Nat → Int × Int} (h : Pts w b off n f) (hn : 0 < n) : b < w.heap.size := World.block_lt_of_cell? (a := ⟨b, off + 0 * 2, none⟩) w (h 0 hn).1
theorem Pts.flat_at {w : World} {b off n : Nat} {f : Nat → Int × Int} (h : Pts w b off n f) : ∀ j u, (flat f n)[j]? = some u → w.cell? ((⟨b, off, none⟩ : Addr).add j) = some u := by
  intro j u hu
  have hj : j < n * 2 := by rw [← flat_len f n]; exact (List.getElem?_eq_some_iff.1 hu).1
  rw [Fx.flat_at f n j hj] at hu
  cases hu
  rw [Addr.add_lit]
  have hi := h (j / 2) (by omega)
  rcases (show j % 2 = 0 ∨ j % 2 = 1 by omega) with e | e
  · unfold cellF; rw [if_pos e, ← hi.1]; congr 2; omega
  · unfold cellF; rw [if_neg (by omega), ← hi.2]; congr 2; omega

/-- block g begins with these pairs -/
def Row (w : World) (g : Nat) (t : TypeId) (n : Nat) (f : Nat → Int × Int) : Prop := ∃ A, Has w g t A ∧ n * 2 ≤ A.size ∧ ∀ j, j < n * 2 → A[j]? = some (cellF f j)
section
variable {w v : World} {g n B : Nat} {t : TypeId} {f f' : Nat → Int × Int}
theorem Row.pts (h : Row w g t n f) : Pts w g 0 n f := by
  obtain ⟨A, hA, _, hc⟩ := h
  intro i hi
  rw [Nat.zero_add, hA.at_, hA.at_, hc _ (by omega), hc _ (by omega), cellF_x, cellF_y]
  exact ⟨rfl, rfl⟩
theorem Row.free (h : Row w g t n f) (i : Nat) : w.frozen? ⟨g, i, none⟩ = false := by
  obtain ⟨A, hA, _⟩ := h
  exact hA.free i
theorem Row.here (h : Row w g t n f) : g < w.heap.size := by
  obtain ⟨A, hA, _⟩ := h
  exact hA.here
theorem Row.stays (h : Row w g t n f) (hb : Made B w v) (hg : g < B) : Row v g t n f := by
  obtain ⟨A, hA, r⟩ := h
  exact ⟨A, hA.stays hb hg, r⟩
theorem Row.kept (h : Row w g t n f) (hb : Made w.heap.size w v) : Row v g t n f := h.stays hb h.here
theorem Row.congr (h : Row w g t n f) (e : ∀ i, i < n → f i = f' i) : Row w g t n f' := by
  obtain ⟨A, hA, hs, hc⟩ := h
  refine ⟨A, hA, hs, fun j hj => ?_⟩
  rw [hc j hj]; unfold cellF; rw [e (j / 2) (by omega)]
theorem Row.more (h : Row w g t n f) (o : Obj) : Row (w.alloc o) g t n f := by
  obtain ⟨A, hA, r⟩ := h
  exact ⟨A, hA.more o, r⟩
theorem Row.other (h : Row w g t n f) (p : Addr) (hp : g ≠ p.block) (u : Value) : Row (w.setCell p u) g t n f := by
  obtain ⟨A, hA, r⟩ := h
  exact ⟨A, hA.other p hp u, r⟩
/-- one pair is written -/
theorem Row.put (h : Row w g t n f) {i : Nat} (hi : i < n) (x y : Int) :
    Row ((w.setCell ⟨g, i * 2, none⟩ (.int .i64 x)).setCell ⟨g, i * 2 + 1, none⟩ (.int .i64 y)) g t n (fun j => if j = i then (x, y) else f j) := by
  obtain ⟨A, hA, hs, hc⟩ := h
  refine ⟨_, (hA.put _ _).put _ _, by simpa using hs, fun j hj => ?_⟩
  rw [Array.getElem?_setIfInBounds, Array.getElem?_setIfInBounds]
  by_cases h1 : i * 2 + 1 = j
  · subst h1
    rw [if_pos rfl, if_pos (by simp; omega), cellF_y, if_pos rfl]
  · rw [if_neg h1]
    by_cases h2 : i * 2 = j
    · subst h2
      rw [if_pos rfl, if_pos (by omega), cellF_x, if_pos rfl]
    · rw [if_neg h2, hc j hj]
      unfold cellF
      simp only []
      rw [if_neg (show ¬ j / 2 = i by omega)]
end
/-- a row that append or make has built -/
theorem Row.of_own {w : World} {base n : Nat} {t : TypeId} {v : Value} {f : Nat → Int × Int} (h : w.ownsRow base t 2 v n (flat f n)) (hn : 0 < n) :
    ∃ g cap, v = .slice (some ⟨g, 0, none⟩) n cap ∧ base ≤ g ∧ n ≤ cap ∧ cap ≤ maxLen ∧ Row w g t n f := by
  rcases h.2 with ⟨_, h0⟩ | ⟨g, cap, cur, hv, hb, hh, hc, hm, hs, ht⟩
  · omega
  · refine ⟨g, cap, hv, hb, hc, hm, cur, hh, by omega, fun j hj => ?_⟩
    have e := flat_at f n j hj
    rw [← ht, List.getElem?_take, if_pos hj] at e
    simpa using e
/-- a row of nothing but zeros -/
theorem Row.made (w : World) (t : TypeId) (n : Nat) (A : Array Value) (hA : A.size = n * 2) (h0 : ∀ j, j < n * 2 → A[j]? = some (.int .i64 0)) : Row (w.alloc (.cells A t)) w.heap.size t n (fun _ => (0, 0)) :=
  ⟨A, has_new _ _ _, by omega, fun j hj => by rw [h0 j hj]; unfold cellF; split <;> rfl⟩
theorem zeros_at (n : Nat) : (madeCells #[Value.int .i64 0, Value.int .i64 0] (n * 2)).size = n * 2 ∧ ∀ j, j < n * 2 → (madeCells #[Value.int .i64 0, Value.int .i64 0] (n * 2))[j]? = some (.int .i64 0) := by
  refine ⟨by simp [madeCells], fun j hj => ?_⟩
  rcases (show j % 2 = 0 ∨ j % 2 = 1 by omega) with e | e <;> simp [madeCells, hj, e]
/-! ### what a call owns stays owned -/
section
variable {w v : World} {base n B : Nat} {t : TypeId} {size : Nat} {x : Value} {xs : List Value}
theorem own_stays (h : w.ownsRow base t size x n xs) (k : Made w.heap.size w v) : v.ownsRow base t size x n xs := by
  obtain ⟨h1, h2⟩ := h
  refine ⟨h1, h2.imp id ?_⟩
  rintro ⟨g, cap, cur, e, hb, hh, r⟩
  have hg : g < w.heap.size := Has.here (t := t) (cs := cur) hh
  exact ⟨g, cap, cur, e, hb, (k.1.block g hg).trans hh, r⟩
theorem own_other (h : w.ownsRow base t size x n xs) {p : Addr} (hp : x.ownBlock ≠ some p.block) (u : Value) : (w.setCell p u).ownsRow base t size x n xs := by
  obtain ⟨h1, h2⟩ := h
  refine ⟨h1, h2.imp id ?_⟩
  rintro ⟨g, cap, cur, e, hb, hh, r⟩
  refine ⟨g, cap, cur, e, hb, (Below.heap_setCell w p u g fun e' => hp ?_).trans hh, r⟩
  rw [e, ← e']; rfl
theorem Row.app {g : Nat} {f : Nat → Int × Int} {row : Option Nat} (h : Row w g t n f) (k : w.grownBy v row) (hr : some g ≠ row) : Row v g t n f := by
  obtain ⟨A, hA, r⟩ := h
  exact ⟨A, (k.block g hA.here hr).trans hA, r⟩
theorem Has.app {g : Nat} {A : Array Value} {row : Option Nat} (h : Has w g t A) (k : w.grownBy v row) (hr : some g ≠ row) : Has v g t A := (k.block g h.here hr).trans h
end
theorem news_pair (w : World) (t : TypeId) (x y : Int) : ∀ j u, [Value.int .i64 x, Value.int .i64 y][j]? = some u → (w.alloc (.cells #[.int .i64 x, .int .i64 y] t)).cell? ((⟨w.heap.size, 0, none⟩ : Addr).add j) = some u := by
  intro j u hu
  rw [Addr.add_lit, Nat.zero_add, (has_new w t _).at_]
  simpa using hu
theorem pair_one (x y : Int) : ∀ u ∈ [Value.int .i64 x, Value.int .i64 y], u.oneCell' = true := by
  intro u hu
  simp at hu
  rcases hu with rfl | rfl <;> rfl
end Go.Proofs.Ytekcehhoimhjeaa.Fx
