/- Contracts of the table of sines. -/
import Derived.Test.YtggpchclfikneaaFixes
import Derived.Test.YtggpchclfikneaaMem
import Derived.Test.YtggpchclfikneaaPlain
import Derived.Great.BuildSlice
import Derived.Great.Walk
import Derived.Deep.DeepCutAuto
namespace Go.Proofs.Ytggpchclfikneaa.Fx
open Go.ChangeShapes Go.WideShapes Go.ChangeAt Go.RowKit
set_option linter.unusedVariables false

def tabV : Array Value := (tabL.map (Value.int .i64)).toArray
def zeroV : Array Value := (List.replicate 257 (Value.int .i64 0)).toArray
theorem tabV_at (k : Nat) (h : k < 257) : tabV[k]? = some (.int .i64 (tabF k)) := by
  unfold tabV
  rw [tabF_in (by omega) (by omega)]
  have hl := tabL_len
  rw [List.getElem?_toArray, List.getElem?_map, List.getD_eq_getElem?_getD, Int.toNat_natCast, List.getElem?_eq_getElem (by omega)]
  rfl
def rowSet (cs : Array Value) : Obj → Obj
  | .cells _ t f => .cells cs t f
  | o => o
theorem setRow_at (w : World) (g : Nat) (cs : Array Value) : (w.setRow g cs).heap[g]? = w.heap[g]?.map (rowSet cs) := by
  simp only [World.setRow, Array.getElem?_modify, if_true]
  cases w.heap[g]? with
  | none => rfl
  | some o => cases o <;> rfl
theorem new_block (w : World) (o : Obj) : (w.alloc o).heap[w.heap.size]? = some o := by
  show (w.heap.push _)[w.heap.size]? = _
  simp
/-- behind the table's own statement -/
def Tabbed (w wx : World) : Prop := Made w.heap.size w wx ∧ ∀ k : Nat, k < 257 → wx.cell? ⟨w.heap.size, k, none⟩ = some (.int .i64 (tabF k))
theorem Tabbed.mk (w : World) (t : TypeId) : Tabbed w ((w.alloc (.cells zeroV t)).setRow w.heap.size tabV) := by
  have hg : (w.alloc (.cells zeroV t)).heap[w.heap.size]? = some (.cells zeroV t (0, 0)) := by
    show (w.heap.push _)[w.heap.size]? = _
    simp
  refine ⟨?_, fun k hk => ?_⟩
  · exact ⟨⟨rfl, rfl, rfl, by simp, fun k hk => (setRow_other _ _ _ _ (by omega)).trans (Below.heap_alloc _ _ _ hk)⟩, fun a => (frozen_setRow _ _ _ a).trans (frozen?_alloc_cells _ _ _ a)⟩
  · rw [cell_setRow_same _ _ _ _ _ _ _ hg]; exact tabV_at k hk
end Go.Proofs.Ytggpchclfikneaa.Fx
