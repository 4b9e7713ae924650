/- Contracts of package crc: Open; bytes as strings; the anchor. -/
import Derived.Test.YtmdhlobonnikcaaDoorCrD
import Derived.Lib.SmallJoins
import Derived.Laws.Strings
namespace Go.Proofs.YtmdhlobonnikcaaDoor.Fx
open Go.ChangeShapes Go.WideShapes Go.ChangeAt Go.RowKit
set_option linter.unusedVariables false

theorem conv_by {w : World} {n c : Nat} {ao : Option Addr} {f : Nat → Nat} (hB : By w ao n f) : (convert 38 9 (.slice ao n c)).run Tryd.prog w = .ok (.string (strB f n)) w := by
  rw [run_convert_bytes_string w _ _ 5 ao n c Tryd.underlying38 Tryd.underlying5 Tryd.underlying9]
  by_cases hn : n = 0
  · subst hn
    cases ao with
    | none => simp [Conv.bytesToString, strB, Sem.run_pure]
    | some a => exact run_bytesToString w a 0 c [] (run_loadCells_list w a [] (by simp))
  · obtain ⟨b, off, rfl, hc⟩ := hB (by omega)
    have h := run_loadCells_list (P := Tryd.prog) w ⟨b, off, none⟩ (((List.range n).map fun i => ((f i : Nat) : Int)).map (Value.int .u8)) fun j v hv => by
      rw [List.map_map] at hv
      have hj : j < n := by
        rcases Nat.lt_or_ge j n with h | h
        · exact h
        · rw [List.getElem?_eq_none (by simpa using h)] at hv; cases hv
      rw [List.getElem?_map, List.getElem?_range hj] at hv
      simp at hv
      subst hv
      rw [Addr.add_lit]
      exact hc j hj
    simp only [List.length_map, List.length_range] at h
    exact run_bytesToString w _ n c _ h
theorem str_iff (a b : ByteArray) : (a.toList == b.toList) = true ↔ a = b := by
  rw [ByteArray.toList_eq, ByteArray.toList_eq, beq_iff_eq]
  constructor
  · intro h
    cases a with | mk a => cases b with | mk b =>
    exact congrArg ByteArray.mk (Array.ext' h)
  · rintro rfl; rfl
theorem str_no {a b : ByteArray} (h : a ≠ b) : (a.toList == b.toList) = false := by
  cases e : (a.toList == b.toList) with
  | false => rfl
  | true => exact absurd ((str_iff a b).1 e) h
theorem str_yes {a b : ByteArray} (h : a = b) : (a.toList == b.toList) = true := (str_iff a b).2 h
theorem By.take {w : World} {ao : Option Addr} {n m : Nat} {f : Nat → Nat} (h : By w ao n f) (hm : m ≤ n) : By w ao m f := fun hp => by
  obtain ⟨b, off, e, hc⟩ := h (by omega)
  exact ⟨b, off, e, fun i hi => hc i (by omega)⟩
theorem By.drop {w : World} {b off n : Nat} {f : Nat → Nat} (h : By w (some ⟨b, off, none⟩) n f) (m : Nat) : By w (some ⟨b, off + m, none⟩) (n - m) (fun i => f (m + i)) := fun hp => by
  obtain ⟨b', off', e, hc⟩ := h (by omega)
  cases e
  exact ⟨b, off + m, rfl, fun i hi => by rw [Nat.add_assoc]; exact hc (m + i) (by omega)⟩
def abF (i : Nat) : Nat := if i = 0 then 97 else 98
def nineF (i : Nat) : Nat := 49 + i % 9
theorem ab_lt (i : Nat) : abF i < 256 := by unfold abF; split <;> omega
theorem nine_lt (i : Nat) : nineF i < 256 := by unfold nineF; omega
theorem nine_sum : sumB nineF 9 = 3421780262 := by decide +kernel
theorem By.new (w : World) (f : Nat → Nat) (n : Nat) (cs : Array Value) (fz : Nat × Nat) (h : ∀ i, i < n → cs[i]? = some (.int .u8 (f i : Nat))) : By (w.alloc (.cells cs 5 fz)) (some ⟨w.heap.size, 0, none⟩) n f := fun _ => ⟨w.heap.size, 0, rfl, fun i hi => by
  have hg : (w.alloc (.cells cs 5 fz)).heap[w.heap.size]? = some (.cells cs 5 fz) := by
    show (w.heap.push _)[w.heap.size]? = _
    simp
  rw [Nat.zero_add, cell_of_row _ _ i cs _ fz hg]
  exact h i hi⟩
theorem below_new (w : World) (o : Obj) : Below w.heap.size w (w.alloc o) := ⟨rfl, rfl, rfl, by simp, fun k hk => Below.heap_alloc w o k hk⟩
theorem By.bel {w u : World} {ao : Option Addr} {n : Nat} {f : Nat → Nat} (h : By w ao n f) (k : Below w.heap.size w u) : By u ao n f := fun hn => by
  obtain ⟨b, off, e, hc⟩ := h hn
  exact ⟨b, off, e, fun i hi => (k.cell (World.block_lt_of_cell? (a := ⟨b, off + i, none⟩) w (hc i hi))).trans (hc i hi)⟩
theorem Tab.bel {w u : World} (h : Tab w) (k : Below w.heap.size w u) : Tab u := fun i hi => (k.cell (World.block_lt_of_cell? (a := ⟨0, i, none⟩) w (h i hi))).trans (h i hi)
theorem str_ab : strB (sealB abF 2) 2 = ⟨#[97, 98]⟩ := by decide +kernel
end Go.Proofs.YtmdhlobonnikcaaDoor.Fx
