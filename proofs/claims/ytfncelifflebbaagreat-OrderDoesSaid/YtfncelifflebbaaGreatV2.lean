/- SwW -/
import Derived.Test.YtfncelifflebbaaGreatV0
import Derived.Test.YtfncelifflebbaaGreatV1

/- Lists in memory, whatever the elements' cells. -/


namespace Go.Proofs.YtfncelifflebbaaGreat.Fx
open Go.ChangeShapes Go.WideShapes Go.ChangeAt Go.RowKit
set_option linter.unusedVariables false

section
variable {α : Type} {enc : α → List Value} {k : Nat}
def flatE (enc : α → List Value) (l : List α) : List Value := l.flatMap enc
theorem flatE_len (hk : ∀ x, (enc x).length = k) : ∀ l : List α, (flatE enc l).length = l.length * k
  | [] => by simp [flatE]
  | x :: l => by
    have := flatE_len hk l
    show (enc x ++ flatE enc l).length = _
    rw [List.length_append, hk, this, List.length_cons, Nat.add_mul, Nat.one_mul, Nat.add_comm]
theorem flatE_snoc (l : List α) (x : α) : flatE enc l ++ enc x = flatE enc (l ++ [x]) := by
  unfold flatE; rw [List.flatMap_append]; simp
theorem flatE_at (hk : ∀ x, (enc x).length = k) : ∀ (l : List α) (i : Nat) (x : α), l[i]? = some x → ∀ j, j < k → (flatE enc l)[i * k + j]? = (enc x)[j]?
  | [], i, x, h, _, _ => by simp at h
  | y :: l, 0, x, h, j, hj => by
    cases h
    show (enc y ++ flatE enc l)[0 * k + j]? = _
    rw [Nat.zero_mul, Nat.zero_add, List.getElem?_append_left (by rw [hk]; exact hj)]
  | y :: l, i + 1, x, h, j, hj => by
    have h' : l[i]? = some x := by simpa using h
    show (enc y ++ flatE enc l)[(i + 1) * k + j]? = _
    rw [List.getElem?_append_right (by rw [hk, Nat.add_mul, Nat.one_mul]; omega), hk, ← flatE_at hk l i x h' j hj]
    congr 1
    rw [Nat.add_mul, Nat.one_mul]; omega
theorem flatE_one (h1 : ∀ x, ∀ v ∈ enc x, v.oneCell' = true) (l : List α) : ∀ u ∈ flatE enc l, u.oneCell' = true := by
  intro u hu
  obtain ⟨x, _, hx⟩ := List.mem_flatMap.1 hu
  exact h1 x u hx
def ElT (enc : α → List Value) (w : World) (b o : Nat) (x : α) : Prop := ∀ j v, (enc x)[j]? = some v → w.cell? ⟨b, o + j, none⟩ = some v
def LsB (enc : α → List Value) (k : Nat) (w : World) (b off : Nat) (l : List α) : Prop := ∀ i x, l[i]? = some x → ElT enc w b (off + i * k) x
def LsT (enc : α → List Value) (k : Nat) (w : World) (ao : Option Addr) (l : List α) : Prop := 0 < l.length → ∃ b off, ao = some ⟨b, off, none⟩ ∧ b < w.heap.size ∧ LsB enc k w b off l
theorem LsB.below {w v : World} {b off B : Nat} {l : List α} (h : LsB enc k w b off l) (kk : Below B w v) (hb : b < B) : LsB enc k v b off l := fun i x hi j u hu => (kk.cell (p := ⟨b, off + i * k + j, none⟩) hb).trans (h i x hi j u hu)
theorem LsT.below {w v : World} {ao : Option Addr} {l : List α} (h : LsT enc k w ao l) (kk : Below w.heap.size w v) : LsT enc k v ao l := fun hl => by
  obtain ⟨b, off, e, hb, h⟩ := h hl
  exact ⟨b, off, e, Nat.lt_of_lt_of_le hb kk.size, h.below kk hb⟩
theorem LsT.kept {w v : World} {ao : Option Addr} {l : List α} (h : LsT enc k w ao l) (kk : Made w.heap.size w v) : LsT enc k v ao l := h.below kk.1
def Lies (B : Nat) (ao : Option Addr) : Prop := ∀ g off, ao = some ⟨g, off, none⟩ → g < B
theorem LsT.flat_at (hk : ∀ x, (enc x).length = k) {w : World} {b off : Nat} {l : List α} (h : LsB enc k w b off l) : ∀ j u, (flatE enc l)[j]? = some u → w.cell? ⟨b, off + j, none⟩ = some u := by
  intro j u hu
  have hj : j < l.length * k := by rw [← flatE_len hk l]; exact (List.getElem?_eq_some_iff.1 hu).1
  have k0 : 0 < k := by rcases Nat.eq_zero_or_pos k with e | e
                        · subst e; simp at hj
                        · exact e
  have hi : j / k < l.length := Nat.div_lt_of_lt_mul (by rw [Nat.mul_comm]; exact hj)
  have hr : j % k < k := Nat.mod_lt _ k0
  have e : j / k * k + j % k = j := by rw [Nat.mul_comm]; exact Nat.div_add_mod j k
  have hx : l[j / k]? = some l[j / k] := List.getElem?_eq_getElem hi
  have := flatE_at hk l (j / k) _ hx (j % k) hr
  rw [e, hu] at this
  have := h (j / k) _ hx (j % k) u this.symm
  rw [Nat.add_assoc, e] at this
  exact this
end


def encI (x : It) : List Value := [.int .i64 x.id, .int .i64 x.lx, .int .i64 x.ly, .int .i64 x.hx, .int .i64 x.hy, .bool x.st]
def encP (p : Int × Int) : List Value := [.int .i64 p.1, .int .i64 p.2]
def ItI (x : It) : Prop := I64 x.id ∧ I64 x.lx ∧ I64 x.ly ∧ I64 x.hx ∧ I64 x.hy
def ItsI (l : List It) : Prop := ∀ x ∈ l, ItI x
end Go.Proofs.YtfncelifflebbaaGreat.Fx

