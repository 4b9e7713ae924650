/- Contracts of the statements' own words for touching bodies: gaps. -/
import Derived.Test.YtmfkcdinfahjlaaTouchA
namespace Go.Proofs.Ytmfkcdinfahjlaa.Fx
open Go.ChangeShapes Go.WideShapes Go.ChangeAt Go.RowKit
set_option linter.unusedVariables false

theorem info_F : (Try.prog.info? 24).map (fun i => (i.zero, i.size, i.bytes)) = some (some (.int .i64 0), 1, 8) := by kernel_rfl
theorem news_one {W : World} (x : Int) (t : TypeId) : ∀ j u, [Value.int .i64 x][j]? = some u → (W.alloc (.cells #[.int .i64 x] t)).cell? ((⟨W.heap.size, 0, none⟩ : Addr).add j) = some u := by
  intro j u hj
  rcases j with _ | j
  · simp at hj
    subst hj
    go_simp
  · simp at hj
theorem one_one (x : Int) : ∀ u ∈ [Value.int .i64 x], u.oneCell' = true := by
  intro u hu
  simp at hu
  subst hu
  rfl

theorem i64_norm (P : Cs) (n i : Nat) : I64 (normF P n i).1 ∧ I64 (normF P n i).2 := by
  unfold normF
  simp only []
  obtain ⟨h1, h2⟩ := i64_u (subF (P ((i + 1) % n)).1 (P i).1) (subF (P ((i + 1) % n)).2 (P i).2)
  exact ⟨h2, i64_neg h1⟩

theorem cell_new {w W : World} {c : Array Value} {t : TypeId} {p : Addr} {x : Value} (e : W = w.alloc (.cells c t)) (k : w.cell? p = some x) : W.cell? p = some x := by rw [e]; exact cell_more k

theorem i64_gap (P : Cs) (n : Nat) (Q : Cs) (m i : Nat) : I64 (gapF P n Q m i) := by
  unfold gapF
  obtain ⟨j, _, e⟩ := leastF_at (fun j => dotV (normF P n i) (subV (Q j) (P i))) (m - 1)
  rw [e]
  exact i64_add _ _
end Go.Proofs.Ytmfkcdinfahjlaa.Fx
