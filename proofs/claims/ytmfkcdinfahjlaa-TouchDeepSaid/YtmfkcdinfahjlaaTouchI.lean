/- Rows of points that append has built; regions without makings, one of whose head comes up late. -/
import Derived.Test.YtmfkcdinfahjlaaTouchA
import Derived.Test.YtmfkcdinfahjlaaTouchC
import Derived.Test.YtmfkcdinfahjlaaTouchH
namespace Go.Proofs.Ytmfkcdinfahjlaa.Fx
open Go.ChangeShapes Go.WideShapes Go.ChangeAt Go.RowKit
set_option linter.unusedVariables false

def cells4 (p : Pnt) : List Value := [.int .i64 p.x, .int .i64 p.y, .int .i64 p.d, .int .i64 p.k]
def flatP (l : List Pnt) : List Value := l.flatMap cells4
theorem flatP_one (l : List Pnt) (p : Pnt) : flatP l ++ [.int .i64 p.x, .int .i64 p.y, .int .i64 p.d, .int .i64 p.k] = flatP (l ++ [p]) := by
  unfold flatP; rw [List.flatMap_append]; rfl
theorem flatP_len : ∀ l : List Pnt, (flatP l).length = l.length * 4
  | [] => rfl
  | p :: l => by
    have := flatP_len l
    show (cells4 p ++ flatP l).length = _
    rw [List.length_append, this, List.length_cons]
    show 4 + l.length * 4 = (l.length + 1) * 4
    omega
theorem flatP_at : ∀ (l : List Pnt) (i : Nat) (p : Pnt), l[i]? = some p → ∀ j, j < 4 → (flatP l)[i * 4 + j]? = (cells4 p)[j]?
  | [], i, p, h, _, _ => by simp at h
  | q :: l, 0, p, h, j, hj => by
    simp at h
    subst h
    show (cells4 q ++ flatP l)[0 * 4 + j]? = _
    rw [List.getElem?_append_left (by show _ < 4; omega)]
    congr 1; omega
  | q :: l, i + 1, p, h, j, hj => by
    have := flatP_at l i p (by simpa using h) j hj
    show (cells4 q ++ flatP l)[(i + 1) * 4 + j]? = _
    rw [List.getElem?_append_right (by show 4 ≤ _; omega), ← this]
    congr 1
    show (i + 1) * 4 + j - 4 = _
    omega
/-- a list of points that append has built -/
theorem PtsT.of_own {w : World} {base : Nat} {t : TypeId} {v : Value} {l : List Pnt} (h : w.ownsRow base t 4 v l.length (flatP l)) :
    ∃ ao c, v = .slice ao l.length c ∧ PtsT w ao l := by
  rcases h.2 with ⟨hv, h0⟩ | ⟨g, cap, cur, hv, hb, hh, hc, hm, hs, ht⟩
  · exact ⟨none, 0, by rw [hv, h0], fun h => by omega⟩
  · refine ⟨some ⟨g, 0, none⟩, cap, hv, fun hl => ⟨g, 0, rfl, fun i p hi => ?_⟩⟩
    have hil : i < l.length := (List.getElem?_eq_some_iff.1 hi).1
    have key : ∀ j, j < 4 → w.cell? ⟨g, 0 + i * 4 + j, none⟩ = (cells4 p)[j]? := fun j hj => by
      have e := flatP_at l i p hi j hj
      rw [← ht, List.getElem?_take, if_pos (by omega)] at e
      have e2 : cur[i * 4 + j]? = (cells4 p)[j]? := by rw [← e]; simp
      rw [← e2, Nat.zero_add]
      exact cell_of_row w g _ cur t (0, 0) hh
    exact ⟨key 0 (by omega), key 1 (by omega), key 2 (by omega), key 3 (by omega)⟩
theorem news_four {W : World} (x y d k : Int) (t : TypeId) : ∀ j u, [Value.int .i64 x, .int .i64 y, .int .i64 d, .int .i64 k][j]? = some u → (W.alloc (.cells #[.int .i64 x, .int .i64 y, .int .i64 d, .int .i64 k] t)).cell? ((⟨W.heap.size, 0, none⟩ : Addr).add j) = some u := by
  intro j u hj
  rcases j with _ | _ | _ | _ | j
  all_goals (simp at hj)
  all_goals (subst hj; go_simp)
theorem four_one (x y d k : Int) : ∀ u ∈ [Value.int .i64 x, .int .i64 y, .int .i64 d, .int .i64 k], u.oneCell' = true := by
  intro u hu
  simp at hu
  rcases hu with rfl | rfl | rfl | rfl <;> rfl
theorem info_Pt : (Try.prog.info? 47).map (fun i => (i.zero, i.size, i.bytes)) = some (some (.agg #[.int .i64 0, .int .i64 0, .int .i64 0, .int .i64 0]), 4, 32) := by kernel_rfl
section
variable {P : Program}
theorem reg_late0 {id : Nat} {Q : Exit → Act → World → Prop} {a : Act} {w : World} {l : List Oper} (n N p : Nat) (hm : P.follows .mixedOrders = true) (hB : floatB .any l.toArray n p = true) (hpu : ∀ o, l.toArray[p]? = some o → Pure P o) (hp : p < n ∨ n ≤ p)
    (hD : dstB N (l.take n) = true) (hN : a.tmps.size = N)
    (h : ∃ A : Act, (∀ (T : Type) (_ : Nonempty T) (f : T → World), Class w f → wpQuiet P l.toArray (fun w' => ∃ x, w' = f x) (fun a' => a' = A) (l.take n) a) ∧
    (∀ (v : World), Made w.heap.size w v → wpList P l.toArray (NoPanic Q) (l.drop n) A v)) : (Code.region id l.toArray true).wp P Q a w := by
  obtain ⟨A, h1, h2⟩ := h
  refine wp_region_noPanic ?_
  refine region_float (A := A) n 0 N p (fun _ => (26, #[])) hm hB (fun _ _ _ _ _ h => h) hpu hp hD hN h1 ?_
  intro u hu
  exact h2 u hu.1
end
end Go.Proofs.Ytmfkcdinfahjlaa.Fx
