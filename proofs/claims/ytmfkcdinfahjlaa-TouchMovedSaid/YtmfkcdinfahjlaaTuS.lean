/- A field's address hangs on no world; the points of moved bodies. -/
import Derived.Test.YtmfkcdinfahjlaaMaks
import Derived.Test.YtmfkcdinfahjlaaTuO
namespace Go.Proofs.Ytmfkcdinfahjlaa.Fx
open Go.ChangeShapes Go.WideShapes Go.ChangeAt Go.RowKit
set_option linter.unusedVariables false
set_option maxRecDepth 100000 in
theorem fieldAddr_pure {o : Oper} {x : Operand} (h : o.op = .fieldAddr 34 x 1) : Pure Try.prog o := by
  intro a C w v hq w'
  unfold Oper.quietAt at hq
  unfold execOp at hq ⊢
  rw [h] at hq ⊢
  simp only [] at hq ⊢
  generalize a.eval x = y at *
  have ok : ∀ (p : Addr) (u : World), (Instr.fieldAt 34 (.pointer (some p)) 1).run Try.prog u = .ok (.pointer (some (p.add 1))) u := fun p u => by kernel_rfl
  have u34 := Try.underlying34
  have no : ∀ y, (∀ p, y ≠ .pointer (some p)) → ∃ h, (Instr.fieldAt 34 y 1).run Try.prog w = .halt h w := fun y hy => by
    unfold Instr.fieldAt
    simp only [Sem.run_bind, run_underlying u34, Result.andThen_ok]
    cases y with
    | pointer a =>
      cases a with
      | none => exact ⟨_, rfl⟩
      | some a => exact absurd rfl (hy a)
    | _ => exact ⟨_, rfl⟩
  by_cases hy : ∃ p, y = .pointer (some p)
  · obtain ⟨p, rfl⟩ := hy
    simp only [Sem.run_bind, ok, Result.andThen_ok, Sem.run_pure, Oper.quietUpon] at hq ⊢
    rw [hq.2]
  · obtain ⟨x, hx⟩ := no y (fun p e => hy ⟨p, e⟩)
    simp [hx, Oper.quietUpon] at hq
end Go.Proofs.Ytmfkcdinfahjlaa.Fx
