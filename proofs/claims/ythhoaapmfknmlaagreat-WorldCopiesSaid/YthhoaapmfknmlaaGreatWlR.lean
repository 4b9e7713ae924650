/- WorldRights. -/
import Derived.Test.YthhoaapmfknmlaaGreatWlP
import Derived.Test.YthhoaapmfknmlaaGreatWlC
namespace Go.Proofs.YthhoaapmfknmlaaGreat.Fx
open Go.ChangeShapes Go.WideShapes Go.ChangeAt Go.RowKit
set_option linter.unusedVariables false

theorem bneq (r : Bool) (w : World) : (binOp .neq 4 (.bool r) (.bool r)).run Tryz.prog w = .ok (.bool false) w := by cases r <;> go_simp
theorem beq_neq (r : Bool) : (r != r) = false := by cases r <;> rfl
theorem SameB.i {b b' : Bd} (h : SameB b b') (k : BdI b) : BdI b' := by
  obtain ⟨h0, h1, h2, h3, h4, h5, h6, h7, h8, h9, h10, h11⟩ := h
  exact ⟨h0 ▸ k.id, h1 ▸ k.x, h2 ▸ k.y, h3 ▸ k.vx, h4 ▸ k.vy, h5 ▸ k.an, h6 ▸ k.sp, h7 ▸ k.de, h8 ▸ k.k, h9 ▸ k.r, h10 ▸ h11 ▸ k.f⟩
theorem same_at {B B' : List Bd} {n : Nat} (hn : B.length = n) (hn' : B'.length = n) (h : ∀ (i : Nat) b b', B[i]? = some b → B'[i]? = some b' → SameB b b') {i : Nat} {b' : Bd} (hb : B'[i]? = some b') : ∃ b, B[i]? = some b ∧ SameB b b' := by
  have hi := (List.getElem?_eq_some_iff.1 hb).1
  have hx : B[i]? = some (B[i]'(by omega)) := List.getElem?_eq_getElem (by omega)
  exact ⟨_, hx, h i _ _ hx hb⟩
theorem same_ids {B B' : List Bd} {n : Nat} (hn : B.length = n) (hn' : B'.length = n) (h : ∀ (i : Nat) b b', B[i]? = some b → B'[i]? = some b' → SameB b b') : ids B' = ids B := by
  refine List.ext_getElem? fun i => ?_
  simp only [ids, List.getElem?_map]
  rcases Nat.lt_or_ge i n with hi | hi
  · have hx : B[i]? = some (B[i]'(by omega)) := List.getElem?_eq_getElem (by omega)
    have hx' : B'[i]? = some (B'[i]'(by omega)) := List.getElem?_eq_getElem (by omega)
    rw [hx, hx']
    simp [(h i _ _ hx hx').1]
  · rw [List.getElem?_eq_none (by omega), List.getElem?_eq_none (by omega)]
theorem own_some {b n c : Nat} {ao : Option Addr} (e : some b = (Value.slice ao n c).ownBlock) : ∃ off s, ao = some ⟨b, off, s⟩ := by
  cases ao with
  | none => cases e
  | some a => obtain ⟨b', off, s⟩ := a; cases e; exact ⟨off, s, rfl⟩
theorem n8_of {P : PW} (h : POk P) : ∀ b ∈ P.B, b.n ≤ 8 := fun b hb => right_n (h.hB.all b hb).shape
end Go.Proofs.YthhoaapmfknmlaaGreat.Fx
