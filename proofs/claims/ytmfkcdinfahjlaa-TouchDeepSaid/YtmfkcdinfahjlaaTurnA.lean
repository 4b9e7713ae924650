/- Contracts of the table of sines. -/
import Derived.Test.YtmfkcdinfahjlaaFixes
import Derived.Test.YtmfkcdinfahjlaaMem
import Derived.Test.YtmfkcdinfahjlaaPlain
import Derived.Great.BuildSlice
import Derived.Great.Walk
import Derived.Deep.DeepCutAuto
namespace Go.Proofs.Ytmfkcdinfahjlaa.Fx
open Go.ChangeShapes Go.WideShapes Go.ChangeAt Go.RowKit
set_option linter.unusedVariables false

def tabV : Array Value := (tabL.map (Value.int .i64)).toArray
def zeroV : Array Value := (List.replicate 257 (Value.int .i64 0)).toArray
theorem tabV_at (k : Nat) (h : k < 257) : tabV[k]? = some (.int .i64 (tabF k)) := by
  unfold tabV
  rw [tabF_in (by omega) (by omega)]
  have hl := tabL_len
  rw [List.getElem?_toArray, List.getElem?_map, List.getD_eq_getElem?_getD, Int.toNat_natCast, List.getElem?_eq_getElem (by omega)]
  rfl
def rowSet (cs : Array Value) : Obj → Obj
  | .cells _ t f => .cells cs t f
  | o => o
theorem setRow_at (w : World) (g : Nat) (cs : Array Value) : (w.setRow g cs).heap[g]? = w.heap[g]?.map (rowSet cs) := by
  simp only [World.setRow, Array.getElem?_modify, if_true]
  cases w.heap[g]? with
  | none => rfl
  | some o => cases o <;> rfl
theorem new_block (w : World) (o : Obj) : (w.alloc o).heap[w.heap.size]? = some o := by
  show (w.heap.push _)[w.heap.size]? = _
  simp
/-- behind the table's own statement -/
def Tabbed (w wx : World) : Prop := Made w.heap.size w wx ∧ ∀ k : Nat, k < 257 → wx.cell? ⟨w.heap.size, k, none⟩ = some (.int .i64 (tabF k))
theorem Tabbed.mk (w : World) (t : TypeId) : Tabbed w ((w.alloc (.cells zeroV t)).setRow w.heap.size tabV) := by
  have hg : (w.alloc (.cells zeroV t)).heap[w.heap.size]? = some (.cells zeroV t (0, 0)) := by
    show (w.heap.push _)[w.heap.size]? = _
    simp
  refine ⟨?_, fun k hk => ?_⟩
  · exact ⟨⟨rfl, rfl, rfl, by simp, fun k hk => (setRow_other _ _ _ _ (by omega)).trans (Below.heap_alloc _ _ _ hk)⟩, fun a => (frozen_setRow _ _ _ a).trans (frozen?_alloc_cells _ _ _ a)⟩
  · rw [cell_setRow_same _ _ _ _ _ _ _ hg]; exact tabV_at k hk
set_option maxRecDepth 100000 in
set_option maxHeartbeats 1000000 in
theorem apisine_c (n : Int) (w : World) (h : I64 n) :
    Calls Try.prog 115 #[.int .i64 n] w fun e w' => e = .returned (.int .i64 (tabF n)) ∧ Made w.heap.size w w' := by
  obtain ⟨h0, h1⟩ := h
  go_enter Try.func115, Try.ntmps115
  go_upto_region 1 with fail
  go_cut [3] (fun s wx => s = .pointer (some ⟨w.heap.size, 0, none⟩) ∧ Tabbed w wx)
  case first =>
    apply wp_region_lit
    refine wpList_buildFlatArrTo rfl 164 24 257 _ rfl .i64 tabL (some 4) rfl (by kernel_rfl) (by kernel_rfl) (by kernel_rfl) (by as_aux_lemma => kernel_rfl) ?_
    refine Go.Great.wpList_runTo rfl (some 3) rfl (.pointer (some ⟨w.heap.size, 0, none⟩)) (w.alloc (.cells zeroV 164)) (by as_aux_lemma => kernel_rfl) ?_
    refine wpList_store_rowTo rfl 164 _ _ rfl rfl w.heap.size tabV (by rfl) (by rfl) 164 zeroV (new_block _ _) (by as_aux_lemma => kernel_rfl) (by as_aux_lemma => kernel_rfl) (by as_aux_lemma => kernel_rfl) ?_
    go_wp2_with fail
    go_meet
    exact ⟨rfl, Tabbed.mk _ _⟩
  case rest =>
    obtain ⟨rfl, HB⟩ := hcut
    have HB' : Hid (Tabbed w wc) := HB
    obtain ⟨HB0, HB1⟩ := HB
    clear HB1
    have hB : Hid (Made w.heap.size w wc) := HB0
    clear HB0
    by_cases c0 : n < 0
    · have e : Hid (tabF n = 0) := tabF_no (Or.inl c0)
      go_wp2
      go_ret
      exact ⟨ret_i e.out.symm, hB.out⟩
    · by_cases c1 : 257 ≤ n
      · have e : Hid (tabF n = 0) := tabF_no (Or.inr c1)
        go_wp2
        go_ret
        exact ⟨ret_i e.out.symm, hB.out⟩
      · obtain ⟨k, rfl⟩ := Int.eq_ofNat_of_zero_le (Int.not_lt.1 c0)
        have hk : k < 257 := by omega
        have hcell := HB'.out.2 k hk
        go_wp2
        go_ret
        exact ⟨rfl, hB.out⟩
end Go.Proofs.Ytmfkcdinfahjlaa.Fx
