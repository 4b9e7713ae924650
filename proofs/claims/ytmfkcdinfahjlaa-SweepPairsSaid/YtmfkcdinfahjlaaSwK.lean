/- append as a making; parts of a list in memory. -/
import Derived.Test.YtmfkcdinfahjlaaSwF
import Derived.Test.YtmfkcdinfahjlaaMak
namespace Go.Proofs.Ytmfkcdinfahjlaa.Fx
open Go.ChangeShapes Go.WideShapes Go.ChangeAt Go.RowKit
set_option linter.unusedVariables false

section
variable {P : Program}
theorem exec_append {o : Oper} {a : Act} {u u' : World} {s x : Operand} {t : TypeId} {v v' xv : Value} (ho : o.op = .call { callee := .builtin .append, args := #[s, x], argTypes := #[t, t] }) (hs : a.eval s = v) (hx : a.eval x = xv)
    (hr : (Builtin.append_ #[t, t] o.type #[v, xv]).run P u = .ok v' u') : (execOp a.eval o).run P u = .ok (.value v') u' := by
  unfold execOp
  simp only [ho, resolve, invoke, builtin, Sem.run_bind, Sem.run_pure, Result.andThen_ok, List.map_toArray, List.map_cons, List.map_nil, hs, hx, hr]
theorem own_base {w : World} {base base' n : Nat} {t : TypeId} {size : Nat} {x : Value} {xs : List Value} (h : w.ownsRow base t size x n xs) (hb : base' ≤ base) : w.ownsRow base' t size x n xs := by
  obtain ⟨h1, h2⟩ := h
  refine ⟨h1, h2.imp id ?_⟩
  rintro ⟨g, cap, cur, e, hg, r⟩
  exact ⟨g, cap, cur, e, Nat.le_trans hb hg, r⟩
/-- a new row -/
theorem append_new {u : World} (t ty e : TypeId) (i : TypeInfo) (z : Value) (size bytes : Nat) (ht : P.underlying t = some (.slice e)) (hi : P.info? e = some i) (hz : i.zero = some z) (hsize : i.size = size) (hby : i.bytes = bytes) (hzs : z.cells.size = size) (hsz : 0 < size)
    (ad : Addr) (m c : Nat) (news : List Value) (hl : news.length = m * size) (hnews : ∀ j w, news[j]? = some w → u.cell? (ad.add j) = some w) (h1 : ∀ w ∈ news, w.oneCell' = true) (h63 : m ≤ maxLen) (hbytes : m * bytes ≤ 140737488355328) (hm : 0 < m) :
    ∃ g cap u', (Builtin.append_ #[t, t] ty #[.slice none 0 0, .slice (some ad) m c]).run P u = .ok (.slice (some ⟨g, 0, none⟩) m cap) u' ∧ u.heap.size ≤ g ∧ g < u'.heap.size ∧ m ≤ cap ∧ u'.ownsRow u.heap.size e size (.slice (some ⟨g, 0, none⟩) m cap) m news ∧ Made u.heap.size u u' := by
  have h0 := World.ownsRow_nil u u.heap.size e size
  obtain ⟨v', u', hr, h2, h3, _⟩ := run_append_own (P := P) u u.heap.size t ty e i z size bytes ht hi hz hsize hby hzs hsz (.slice none 0 0) 0 [] h0 ad m c news hl hnews h1 (by omega) (by rw [Nat.zero_add]; exact hbytes) (Nat.le_refl _)
  have hf := append_frozen (P := P) u u.heap.size t ty e i z size bytes ht hi hz hsize hby hsz (.slice none 0 0) 0 [] h0 ad m c news hl hnews h1 (by omega) (by rw [Nat.zero_add]; exact hbytes) hm hr
  rw [Nat.zero_add, List.nil_append] at h2
  have hM : Made u.heap.size u u' := (Made.rfl_ _ _).app h3 hf (Nat.le_refl _) (fun k hk => by cases hk)
  rcases id h2.2 with ⟨_, h⟩ | ⟨g, cap, cur, rfl, hb, hh, hc, _⟩
  · omega
  · exact ⟨g, cap, u', hr, hb, Has.here (t := e) (cs := cur) hh, hc, h2, hM⟩
end
section
variable {α : Type} {enc : α → List Value} {k : Nat}
theorem LsB.drop {w : World} {b off : Nat} {l : List α} (h : LsB enc k w b off l) (m : Nat) : LsB enc k w b (off + m * k) (l.drop m) := by
  intro i x hi j v hv
  rw [List.getElem?_drop] at hi
  have := h (m + i) x hi j v hv
  rw [Nat.add_mul] at this
  rw [← this]
  congr 2
  omega
theorem LsB.take {w : World} {b off : Nat} {l : List α} (h : LsB enc k w b off l) (m : Nat) : LsB enc k w b off (l.take m) := by
  intro i x hi
  have : l[i]? = some x := by
    have h1 := (List.getElem?_eq_some_iff.1 hi).1
    rw [List.length_take] at h1
    rw [List.getElem?_take, if_pos (by omega)] at hi
    exact hi
  exact h i x this
theorem LsB.news (hk : ∀ x, (enc x).length = k) {w : World} {b off : Nat} {l : List α} (h : LsB enc k w b off l) : ∀ j u, (flatE enc l)[j]? = some u → w.cell? ((⟨b, off, none⟩ : Addr).add j) = some u := fun j u hu => by
  rw [Addr.add_lit]
  exact LsT.flat_at hk h j u hu
end
theorem ieql (x : It) (w : World) : (binOp .neq 61 (.agg #[.int .i64 x.id, .int .i64 x.lx, .int .i64 x.ly, .int .i64 x.hx, .int .i64 x.hy, .bool x.st]) (.agg #[.int .i64 x.id, .int .i64 x.lx, .int .i64 x.ly, .int .i64 x.hx, .int .i64 x.hy, .bool x.st])).run Try.prog w = .ok (.bool false) w := by
  go_simp
theorem perm_turn {α : Type} (l : List α) (k : Nat) : (l.drop k ++ l.take k).Perm l := by
  have h := List.perm_append_comm (l₁ := l.drop k) (l₂ := l.take k)
  rwa [List.take_append_drop] at h
end Go.Proofs.Ytmfkcdinfahjlaa.Fx
