/- Bytes that a call owns: a row, an append to it, a byte of it written. -/
import Derived.Test.YtmdhlobonnikcaaDoorCrA
import Derived.Lib.AppendZeros
import Derived.OwnWalk
namespace Go.Proofs.YtmdhlobonnikcaaDoor.Fx
open Go.ChangeShapes Go.WideShapes Go.ChangeAt Go.RowKit
set_option linter.unusedVariables false

def bl (f : Nat → Nat) (n : Nat) : List Value := (List.range n).map fun i => Value.int .u8 (f i : Nat)
theorem bl_len (f : Nat → Nat) (n : Nat) : (bl f n).length = n := by simp [bl]
theorem bl_at (f : Nat → Nat) {n j : Nat} (h : j < n) : (bl f n)[j]? = some (.int .u8 (f j : Nat)) := by simp [bl, h]
theorem bl_one (f : Nat → Nat) (n : Nat) : ∀ u ∈ bl f n, u.oneCell' = true := by
  intro u hu
  obtain ⟨j, _, rfl⟩ := List.mem_map.1 hu
  rfl
theorem bl_congr {f g : Nat → Nat} {n : Nat} (h : ∀ i, i < n → f i = g i) : bl f n = bl g n := by
  refine List.map_congr_left fun i hi => ?_
  rw [h i (List.mem_range.1 hi)]
theorem bl_join (f g : Nat → Nat) (n m : Nat) : bl f n ++ bl g m = bl (joinB f g n) (n + m) := by
  apply List.ext_getElem?
  intro j
  by_cases h1 : j < n
  · rw [List.getElem?_append_left (by rw [bl_len]; exact h1), bl_at f h1, bl_at _ (show j < n + m by omega)]
    unfold joinB; rw [if_pos h1]
  · rw [List.getElem?_append_right (by rw [bl_len]; omega), bl_len]
    by_cases h2 : j < n + m
    · rw [bl_at g (show j - n < m by omega), bl_at _ h2]
      unfold joinB; rw [if_neg h1]
    · rw [List.getElem?_eq_none (by rw [bl_len]; omega), List.getElem?_eq_none (by rw [bl_len]; omega)]
/-- a row of bytes of one's own -/
def OB (w : World) (base : Nat) (v : Value) (n : Nat) (f : Nat → Nat) : Prop := w.ownsRow base 5 1 v n (bl f n)
theorem OB.shape {w : World} {base n : Nat} {v : Value} {f : Nat → Nat} (h : OB w base v n f) : ∃ ao c, v = .slice ao n c ∧ n ≤ c ∧ c ≤ maxLen ∧ (0 < n → ∃ g, ao = some ⟨g, 0, none⟩ ∧ base ≤ g ∧ g < w.heap.size ∧ ∀ i, w.frozen? ⟨g, i, none⟩ = false) := by
  rcases h.2 with ⟨rfl, rfl⟩ | ⟨g, cap, cur, rfl, hb, hg, hc, hm, _⟩
  · exact ⟨none, 0, rfl, by omega, by unfold maxLen; omega, fun h => absurd h (by omega)⟩
  · have hh : Has w g 5 cur := hg
    exact ⟨_, _, rfl, hc, hm, fun _ => ⟨g, rfl, hb, hh.here, fun i => hh.free i⟩⟩
theorem OB.by_ {w : World} {base n c : Nat} {ao : Option Addr} {f : Nat → Nat} (h : OB w base (.slice ao n c) n f) : By w ao n f := by
  intro hn
  rcases h.2 with ⟨_, rfl⟩ | ⟨g, cap, cur, e, hb, hg, hc, hm, hs, ht⟩
  · omega
  · cases e
    refine ⟨g, 0, rfl, fun i hi => ?_⟩
    have hh : Has w g 5 cur := hg
    rw [Nat.zero_add, hh.at_ i]
    have := bl_at f hi
    rw [← ht, List.getElem?_take, if_pos (by omega)] at this
    simpa using this
theorem OB.nil (w : World) (base : Nat) (f : Nat → Nat) : OB w base (.slice none 0 0) 0 f := World.ownsRow_nil _ _ _ _
theorem OB.congr {w : World} {base n : Nat} {v : Value} {f g : Nat → Nat} (h : OB w base v n f) (e : ∀ i, i < n → f i = g i) : OB w base v n g := by
  unfold OB; rw [← bl_congr e]; exact h
theorem OB.kept {w u : World} {base n : Nat} {v : Value} {f : Nat → Nat} (h : OB w base v n f) (k : Made w.heap.size w u) : OB u base v n f := own_stays h k
theorem OB.low {w : World} {base base' n : Nat} {v : Value} {f : Nat → Nat} (h : OB w base v n f) (hb : base' ≤ base) : OB w base' v n f := by
  refine ⟨h.1, h.2.imp id ?_⟩
  rintro ⟨g, cap, cur, e, hg, r⟩
  exact ⟨g, cap, cur, e, Nat.le_trans hb hg, r⟩
theorem By.kept {w u : World} {ao : Option Addr} {n : Nat} {f : Nat → Nat} (h : By w ao n f) (k : Made w.heap.size w u) : By u ao n f := fun hn => by
  obtain ⟨b, off, e, hc⟩ := h hn
  exact ⟨b, off, e, fun i hi => k.reads (hc i hi)⟩
theorem By.stays {w u : World} {ao : Option Addr} {n : Nat} {f : Nat → Nat} (h : By w ao n f) {B : Nat} (k : Made B w u) (hb : ∀ b off, ao = some ⟨b, off, none⟩ → b < B) : By u ao n f := fun hn => by
  obtain ⟨b, off, e, hc⟩ := h hn
  exact ⟨b, off, e, fun i hi => (k.1.cell (hb b off e)).trans (hc i hi)⟩
theorem By.below {w : World} {ao : Option Addr} {n : Nat} {f : Nat → Nat} (h : By w ao n f) (hn : 0 < n) : ∃ b off, ao = some ⟨b, off, none⟩ ∧ b < w.heap.size := by
  obtain ⟨b, off, e, hc⟩ := h hn
  exact ⟨b, off, e, World.block_lt_of_cell? (a := ⟨b, off + 0, none⟩) w (hc 0 hn)⟩
theorem By.congr {w : World} {ao : Option Addr} {n : Nat} {f g : Nat → Nat} (h : By w ao n f) (e : ∀ i, i < n → f i = g i) : By w ao n g := fun hn => by
  obtain ⟨b, off, e1, hc⟩ := h hn
  exact ⟨b, off, e1, fun i hi => by rw [hc i hi, e i hi]⟩
theorem Tab.kept {w u : World} (h : Tab w) (k : Made w.heap.size w u) : Tab u := fun i hi => k.reads (h i hi)
/-- a byte of one's own is written -/
theorem OB.set {w : World} {base n g c i : Nat} {f : Nat → Nat} (h : OB w base (.slice (some ⟨g, 0, none⟩) n c) n f) (hi : i < n) (x : Nat) :
    OB (w.setCell ⟨g, i, none⟩ (.int .u8 (x : Nat))) base (.slice (some ⟨g, 0, none⟩) n c) n (fun j => if j = i then x else f j) := by
  rcases h.2 with ⟨e, _⟩ | ⟨g', cap, cur, e, hb, hg, hc, hm, hs, ht⟩
  · cases e
  · cases e
    have hh : Has w g 5 cur := hg
    refine ⟨by rw [bl_len, Nat.mul_one], .inr ⟨g, c, _, rfl, hb, hh.put i _, hc, hm, by simpa using hs, ?_⟩⟩
    apply List.ext_getElem?
    intro j
    rw [List.getElem?_take]
    by_cases hj : j < n
    · rw [if_pos (by omega), bl_at _ hj]
      have hold := bl_at f hj
      rw [← ht, List.getElem?_take, if_pos (by omega)] at hold
      by_cases e : i = j
      · subst e
        have hl : i < cur.size := by rw [hs]; omega
        simp [hl]
      · rw [if_neg (fun h => e h.symm), Array.toList_setIfInBounds, List.getElem?_set, if_neg e]
        exact hold
    · rw [if_neg (by omega), List.getElem?_eq_none (by rw [bl_len]; omega)]
theorem info8 : (Tryd.prog.info? 5).map (fun i => (i.zero, i.size, i.bytes)) = some (some (.int .u8 0), 1, 1) := by kernel_rfl
section
variable {P : Program}
theorem append_none (w : World) (base : Nat) (t ty e : TypeId) (i : TypeInfo) (size : Nat) (ht : P.underlying t = some (.slice e)) (hi : P.info? e = some i) (v : Value) (n : Nat) (xs : List Value) (hown : w.ownsRow base e size v n xs) (ao : Option Addr) (c : Nat) :
    (Builtin.append_ #[t, t] ty #[v, .slice ao 0 c]).run P w = .ok v w := by
  have hf : (Builtin.firstCells i.size 0 (.slice ao 0 c)).run P w = .ok #[] w := by
    cases ao with
    | none => simp [Builtin.firstCells, Sem.run_pure]
    | some a => exact run_firstCells_some w i.size 0 a 0 c [] (by simp) (by simp)
  rcases hown.2 with ⟨rfl, rfl⟩ | ⟨g, cap, cur, rfl, _, _, hnc, _⟩
  · simp [Builtin.append_, run_underlying ht, sizeOf, typeInfo, hi, Builtin.lenOf, hf]
  · simp [Builtin.append_, run_underlying ht, sizeOf, typeInfo, hi, Builtin.lenOf, hf, hnc, storeCells]
end
/-- bytes appended to a row of one's own -/
theorem append_by {w : World} {base n m c : Nat} {v : Value} {ao : Option Addr} {f g : Nat → Nat} (ty : TypeId) (hown : OB w base v n f) (hx : By w ao m g) (h63 : n + m ≤ 1099511627776) (hbase : base ≤ w.heap.size) :
    ∃ v' w', (Builtin.append_ #[38, 38] ty #[v, .slice ao m c]).run Tryd.prog w = .ok v' w' ∧ OB w' base v' (n + m) (joinB f g n) ∧ w.grownBy w' v.ownBlock ∧ (∀ p, w'.frozen? p = w.frozen? p) := by
  obtain ⟨i, hi, hz0, hz1, hz2⟩ := info_parts info8
  by_cases hm : m = 0
  · subst hm
    refine ⟨v, w, append_none w base _ _ _ i 1 Tryd.underlying38 hi v n _ hown ao c, ?_, ⟨rfl, rfl, rfl, Nat.le_refl _, fun _ _ _ => rfl⟩, fun _ => rfl⟩
    exact hown.congr fun j hj => by unfold joinB; rw [if_pos hj]
  · obtain ⟨b, off, rfl, hc⟩ := hx (by omega)
    have hnews : ∀ j u, (bl g m)[j]? = some u → w.cell? ((⟨b, off, none⟩ : Addr).add j) = some u := by
      intro j u hu
      have hj : j < m := by
        rcases Nat.lt_or_ge j m with h | h
        · exact h
        · rw [List.getElem?_eq_none (by rw [bl_len]; exact h)] at hu; cases hu
      rw [bl_at g hj] at hu
      cases hu
      rw [Addr.add_lit]
      exact hc j hj
    obtain ⟨v', w', hr, h2, h3, _⟩ := run_append_own (P := Tryd.prog) w base 38 ty 5 i (.int .u8 0) 1 1 Tryd.underlying38 hi hz0 hz1 hz2 rfl (by omega) v n (bl f n) hown ⟨b, off, none⟩ m c (bl g m) (by rw [bl_len, Nat.mul_one]) hnews (bl_one g m) (by unfold maxLen; omega) (by omega) hbase
    have hf := append_frozen (P := Tryd.prog) w base 38 ty 5 i (.int .u8 0) 1 1 Tryd.underlying38 hi hz0 hz1 hz2 (by omega) v n (bl f n) hown ⟨b, off, none⟩ m c (bl g m) (by rw [bl_len, Nat.mul_one]) hnews (bl_one g m) (by unfold maxLen; omega) (by omega) (by omega) hr
    refine ⟨v', w', hr, ?_, h3, hf⟩
    unfold OB
    rw [← bl_join]
    exact h2
/-- a new row: a copy -/
theorem append_copy {w : World} {m c : Nat} {ao : Option Addr} {g : Nat → Nat} (ty : TypeId) (hx : By w ao m g) (h63 : m ≤ 1099511627776) :
    ∃ v' w', (Builtin.append_ #[38, 38] ty #[.slice none 0 0, .slice ao m c]).run Tryd.prog w = .ok v' w' ∧ OB w' w.heap.size v' m g ∧ Made w.heap.size w w' := by
  obtain ⟨v', w', hr, h1, h2, h3⟩ := append_by (f := g) (c := c) ty (OB.nil w w.heap.size g) hx (by omega) (Nat.le_refl _)
  rw [Nat.zero_add] at h1
  refine ⟨v', w', hr, h1.congr fun i hi => ?_, (Made.rfl_ _ _).app h2 h3 (Nat.le_refl _) fun k hk => by cases hk⟩
  unfold joinB; rw [if_neg (by omega), Nat.sub_zero]
end Go.Proofs.YtmdhlobonnikcaaDoor.Fx
