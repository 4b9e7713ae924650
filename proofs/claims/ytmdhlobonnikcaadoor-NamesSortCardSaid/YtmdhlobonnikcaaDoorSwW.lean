/- Lists in memory, whatever the elements' cells. -/
import Derived.Test.YtmdhlobonnikcaaDoorMem
import Derived.Test.YtmdhlobonnikcaaDoorSwP
namespace Go.Proofs.YtmdhlobonnikcaaDoor.Fx
open Go.ChangeShapes Go.WideShapes Go.ChangeAt Go.RowKit
set_option linter.unusedVariables false

section
variable {α : Type} {enc : α → List Value} {k : Nat}
def flatE (enc : α → List Value) (l : List α) : List Value := l.flatMap enc
theorem flatE_len (hk : ∀ x, (enc x).length = k) : ∀ l : List α, (flatE enc l).length = l.length * k
  | [] => by simp [flatE]
  | x :: l => by
    have := flatE_len hk l
    show (enc x ++ flatE enc l).length = _
    rw [List.length_append, hk, this, List.length_cons, Nat.add_mul, Nat.one_mul, Nat.add_comm]
theorem flatE_snoc (l : List α) (x : α) : flatE enc l ++ enc x = flatE enc (l ++ [x]) := by
  unfold flatE; rw [List.flatMap_append]; simp
theorem flatE_append (l r : List α) : flatE enc l ++ flatE enc r = flatE enc (l ++ r) := by
  unfold flatE; rw [List.flatMap_append]
theorem flatE_at (hk : ∀ x, (enc x).length = k) : ∀ (l : List α) (i : Nat) (x : α), l[i]? = some x → ∀ j, j < k → (flatE enc l)[i * k + j]? = (enc x)[j]?
  | [], i, x, h, _, _ => by simp at h
  | y :: l, 0, x, h, j, hj => by
    cases h
    show (enc y ++ flatE enc l)[0 * k + j]? = _
    rw [Nat.zero_mul, Nat.zero_add, List.getElem?_append_left (by rw [hk]; exact hj)]
  | y :: l, i + 1, x, h, j, hj => by
    have h' : l[i]? = some x := by simpa using h
    show (enc y ++ flatE enc l)[(i + 1) * k + j]? = _
    rw [List.getElem?_append_right (by rw [hk, Nat.add_mul, Nat.one_mul]; omega), hk, ← flatE_at hk l i x h' j hj]
    congr 1
    rw [Nat.add_mul, Nat.one_mul]; omega
theorem flatE_one (h1 : ∀ x, ∀ v ∈ enc x, v.oneCell' = true) (l : List α) : ∀ u ∈ flatE enc l, u.oneCell' = true := by
  intro u hu
  obtain ⟨x, _, hx⟩ := List.mem_flatMap.1 hu
  exact h1 x u hx
/-- element i's cells lie there -/
def ElT (enc : α → List Value) (w : World) (b o : Nat) (x : α) : Prop := ∀ j v, (enc x)[j]? = some v → w.cell? ⟨b, o + j, none⟩ = some v
def LsB (enc : α → List Value) (k : Nat) (w : World) (b off : Nat) (l : List α) : Prop := ∀ i x, l[i]? = some x → ElT enc w b (off + i * k) x
/-- the slice's elements are these -/
def LsT (enc : α → List Value) (k : Nat) (w : World) (ao : Option Addr) (l : List α) : Prop := 0 < l.length → ∃ b off, ao = some ⟨b, off, none⟩ ∧ b < w.heap.size ∧ LsB enc k w b off l
theorem LsB.below {w v : World} {b off B : Nat} {l : List α} (h : LsB enc k w b off l) (kk : Below B w v) (hb : b < B) : LsB enc k v b off l := fun i x hi j u hu => (kk.cell (p := ⟨b, off + i * k + j, none⟩) hb).trans (h i x hi j u hu)
theorem LsT.below {w v : World} {ao : Option Addr} {l : List α} (h : LsT enc k w ao l) (kk : Below w.heap.size w v) : LsT enc k v ao l := fun hl => by
  obtain ⟨b, off, e, hb, h⟩ := h hl
  exact ⟨b, off, e, Nat.lt_of_lt_of_le hb kk.size, h.below kk hb⟩
theorem LsT.kept {w v : World} {ao : Option Addr} {l : List α} (h : LsT enc k w ao l) (kk : Made w.heap.size w v) : LsT enc k v ao l := h.below kk.1
/-- all of it lies below B -/
def Lies (B : Nat) (ao : Option Addr) : Prop := ∀ g off, ao = some ⟨g, off, none⟩ → g < B
theorem LsT.stays {w v : World} {ao : Option Addr} {l : List α} {B : Nat} (h : LsT enc k w ao l) (kk : Below B w v) (hB : Lies B ao) : LsT enc k v ao l := fun hl => by
  obtain ⟨b, off, e, hb, h⟩ := h hl
  exact ⟨b, off, e, Nat.lt_of_lt_of_le hb kk.size, h.below kk (hB b off e)⟩
theorem LsT.flat_at (hk : ∀ x, (enc x).length = k) {w : World} {b off : Nat} {l : List α} (h : LsB enc k w b off l) : ∀ j u, (flatE enc l)[j]? = some u → w.cell? ⟨b, off + j, none⟩ = some u := by
  intro j u hu
  have hj : j < l.length * k := by rw [← flatE_len hk l]; exact (List.getElem?_eq_some_iff.1 hu).1
  have k0 : 0 < k := by rcases Nat.eq_zero_or_pos k with e | e
                        · subst e; simp at hj
                        · exact e
  have hi : j / k < l.length := Nat.div_lt_of_lt_mul (by rw [Nat.mul_comm]; exact hj)
  have hr : j % k < k := Nat.mod_lt _ k0
  have e : j / k * k + j % k = j := by rw [Nat.mul_comm]; exact Nat.div_add_mod j k
  have hx : l[j / k]? = some l[j / k] := List.getElem?_eq_getElem hi
  have := flatE_at hk l (j / k) _ hx (j % k) hr
  rw [e, hu] at this
  have := h (j / k) _ hx (j % k) u this.symm
  rw [Nat.add_assoc, e] at this
  exact this
/-- a row that append has built -/
theorem LsT.of_own (hk : ∀ x, (enc x).length = k) {w : World} {base : Nat} {t : TypeId} {v : Value} {l : List α} (h : w.ownsRow base t k v l.length (flatE enc l)) :
    ∃ ao c, v = .slice ao l.length c ∧ l.length ≤ c ∧ LsT enc k w ao l ∧ ∀ g off, ao = some ⟨g, off, none⟩ → base ≤ g ∧ g < w.heap.size := by
  rcases h.2 with ⟨hv, h0⟩ | ⟨g, cap, cur, hv, hb, hh, hc, hm, hs, ht⟩
  · exact ⟨none, 0, by rw [h0]; exact hv, by omega, fun hl => by omega, fun g off e => by cases e⟩
  · refine ⟨_, cap, hv, hc, fun hl => ⟨g, 0, rfl, Has.here (t := t) (cs := cur) hh, fun i x hi j u hu => ?_⟩, fun g' off e => ?_⟩
    · have hj : j < k := by rw [← hk x]; exact (List.getElem?_eq_some_iff.1 hu).1
      have hi' : i < l.length := (List.getElem?_eq_some_iff.1 hi).1
      have hlt : i * k + j < l.length * k := by
        have := Nat.mul_le_mul_right k (show i + 1 ≤ l.length from hi'); rw [Nat.add_mul, Nat.one_mul] at this; omega
      have e := flatE_at hk l i x hi j hj
      have hG : Has w g t cur := hh
      rw [Nat.zero_add, hG.at_, ← hu, ← e, ← ht, List.getElem?_take, if_pos hlt]
      simp
    · cases e
      exact ⟨hb, Has.here (t := t) (cs := cur) hh⟩
theorem own_below {w v : World} {base n : Nat} {t : TypeId} {size B : Nat} {x : Value} {xs : List Value} (h : w.ownsRow base t size x n xs) (kk : Below w.heap.size w v) : v.ownsRow base t size x n xs := by
  obtain ⟨h1, h2⟩ := h
  refine ⟨h1, h2.imp id ?_⟩
  rintro ⟨g, cap, cur, e, hb, hh, r⟩
  have hg : g < w.heap.size := Has.here (t := t) (cs := cur) hh
  exact ⟨g, cap, cur, e, hb, (kk.block g hg).trans hh, r⟩
theorem own_other' {w : World} {base n : Nat} {t : TypeId} {size : Nat} {x : Value} {xs : List Value} (h : w.ownsRow base t size x n xs) {p : Addr} (hp : x.ownBlock ≠ some p.block) (u : Value) : (w.setCell p u).ownsRow base t size x n xs := own_other h hp u
theorem own_apart {w : World} {base n g : Nat} {t t' : TypeId} {size : Nat} {x : Value} {xs : List Value} {cs : Array Value} (h : w.ownsRow base t size x n xs) (hh : Has w g t' cs) (ht : t ≠ t') : some g ≠ x.ownBlock := by
  intro e
  rcases h.2 with ⟨hv, _⟩ | ⟨g', cap, cur, hv, _, hc, _⟩
  · rw [hv] at e; cases e
  · rw [hv] at e
    cases e
    have := hc.symm.trans hh
    simp at this
    exact ht this.2
end

/-! ### items and pairs -/
def encI (x : It) : List Value := [.int .i64 x.id, .int .i64 x.lx, .int .i64 x.ly, .int .i64 x.hx, .int .i64 x.hy, .bool x.st]
def encP (p : Int × Int) : List Value := [.int .i64 p.1, .int .i64 p.2]
theorem encI_len (x : It) : (encI x).length = 6 := rfl
theorem encP_len (p : Int × Int) : (encP p).length = 2 := rfl
theorem encI_one (x : It) : ∀ v ∈ encI x, v.oneCell' = true := by
  intro v hv; simp [encI] at hv; rcases hv with rfl | rfl | rfl | rfl | rfl | rfl <;> rfl
theorem encP_one (p : Int × Int) : ∀ v ∈ encP p, v.oneCell' = true := by
  intro v hv; simp [encP] at hv; rcases hv with rfl | rfl <;> rfl
theorem ElT.i6 {w : World} {b o : Nat} {x : It} (h : ElT encI w b o x) : w.cell? ⟨b, o, none⟩ = some (.int .i64 x.id) ∧ w.cell? ⟨b, o + 1, none⟩ = some (.int .i64 x.lx) ∧ w.cell? ⟨b, o + 2, none⟩ = some (.int .i64 x.ly) ∧ w.cell? ⟨b, o + 3, none⟩ = some (.int .i64 x.hx) ∧ w.cell? ⟨b, o + 4, none⟩ = some (.int .i64 x.hy) ∧ w.cell? ⟨b, o + 5, none⟩ = some (.bool x.st) :=
  ⟨h 0 _ rfl, h 1 _ rfl, h 2 _ rfl, h 3 _ rfl, h 4 _ rfl, h 5 _ rfl⟩
theorem ElT.p2 {w : World} {b o : Nat} {p : Int × Int} (h : ElT encP w b o p) : w.cell? ⟨b, o, none⟩ = some (.int .i64 p.1) ∧ w.cell? ⟨b, o + 1, none⟩ = some (.int .i64 p.2) :=
  ⟨h 0 _ rfl, h 1 _ rfl⟩
/-- the numbers of an item are numbers -/
def ItI (x : It) : Prop := I64 x.id ∧ I64 x.lx ∧ I64 x.ly ∧ I64 x.hx ∧ I64 x.hy
def ItsI (l : List It) : Prop := ∀ x ∈ l, ItI x
end Go.Proofs.YtmdhlobonnikcaaDoor.Fx
