/- PackFails: for every two slices of bytes the statement that a reader which lacks bytes fails permanently, and reads nothing but zeros then, returns true and leaves its arguments; no condition. -/
import Derived.Test.YtecfnimpakmiaaaRows
import Derived.WalkKit
import Derived.ProofKit
import Derived.OpenShut
import Derived.ShutString
import Derived.Lib.SmallJoins
import Derived.ChangeOld
import Derived.Below
import Derived.Test.YtecfnimpakmiaaaPaH
import Derived.Test.YtecfnimpakmiaaaCrO
import Derived.SizedLaws
import Derived.LaidLaws
import Derived.LaidMore
import Derived.Handed
namespace Go.Proofs.Ytecfnimpakmiaaa.packFails
open Go.ChangeShapes Go.WideShapes Go.ChangeAt Go.RowKit Go.Joins
set_option linter.unusedVariables false

theorem own : ownKnob Try.prog.godebug = none := by kernel_rfl
theorem laidOut : laidOutB Try.prog = true := by kernel_rfl

theorem walk (o0 : Option Addr) (n0 c0 : Nat) (l0 : Nat → Nat) (o1 : Option Addr) (n1 c1 : Nat) (l1 : Nat → Nat) (w : World) (s0 : Fx.ByIn w o0 n0 c0 l0) (s1 : Fx.ByIn w o1 n1 c1 l1) :
    Calls Try.prog 3 #[.slice o0 n0 c0, .slice o1 n1 c1] w fun e w' => e = .returned (.bool true) ∧ Below w.heap.size w w' :=
  (Fx.pfails_walk s0 s1).mono fun _ _ h => ⟨h.1, by first | exact h.2 | exact h.2.1⟩

set_option maxRecDepth 100000 in
theorem lifted (os : Os) (started : os.Started) (H : Type) (enc : TypeId × Value → H) :
    ReturnsInHanded {} Try.checked os 3 .any (Rows.packFailsSpec.pre6 enc Try.prog Try.f3 Rows.packFailsRow.domain false) (Rows.packFailsSpec.post enc Try.prog Try.f3 false true false false) := by
  refine returnsInHanded_of_change_sized (C := Try.checked) own started (by kernel_rfl) Try.func3
    (ChangeSpec.witness6 (enc := enc) (C := Try.checked) false ⟨#[], #[.slice none 0 0, .slice none 0 0], []⟩ 8 (by kernel_rfl) (by kernel_rfl) (by kernel_rfl) (by kernel_rfl)) ?_
  intro W base args ds gs before hval0 hW hcnd hsz0 _
  have hsz : (DataW.weightsEach Try.checked.prog (Try.f3.params.toList ++ Rows.packFailsSpec.plain.varTypes Try.checked.prog) (ds ++ gs)).all (· ≤ reachBytes) = true := hsz0
  have hval : ∀ (j : Nat) t v, Try.f3.params[j]? = some t → args[j]? = some v → Value.okWide Try.prog W .any base t v := hval0
  have hW' := hW
  obtain ⟨p, q, hA0, hV, rfl, hfz, hnd⟩ := hW
  have hA : DataW.TrodAll enc Try.prog W 0 (fun _ => true) true Try.f3.params.toList args.toList ds p := hA0
  rw [Try.params3] at hA hval hsz
  obtain ⟨v0, vs0, d0, ds0, p0, q0, hargs, rfl, rfl, h0, r0'⟩ := trodAll_cons hA
  obtain ⟨v1, vs1, d1, ds1, p1, q1, rfl, rfl, rfl, h1, r1'⟩ := trodAll_cons r0'
  obtain ⟨rfl, rfl, rfl⟩ := trodAll_nil r1'
  obtain rfl : args = #[v0, v1] := by cases args; simp_all
  obtain ⟨rfl, rfl⟩ := trodVars_none hV
  have k0 := h0
  have lt0 : ∀ x ∈ p0, x.block < W.heap.size := by obtain ⟨m, hm⟩ := k0; exact DataW.trod_lt m _ _ _ hm
  obtain ⟨o0, n0, c0, rfl⟩ := okWide_slice Try.underlying22 (hval 0 22 v0 rfl rfl)
  obtain ⟨fu0, hf0⟩ := h0
  simp only [Value.cells] at hf0
  obtain ⟨oo0, nn0, cc0, l0, ev0, sb0, sf0, sc0, sz0⟩ := Fx.open_by hf0
  cases ev0
  have s0 : Fx.ByIn W o0 n0 c0 l0 := ⟨sb0, sf0, sc0, by
    rcases sz0 with h | ⟨D, E, ed, hl⟩
    · omega
    · have hz := sized_slice hsz (j := 0) (t := 22) (e := 5) (elems := D) (spare := E) rfl (by simpa using ed) Try.underlying22
      rw [show Try.checked.prog.bytesOf 5 = 1 by kernel_rfl] at hz
      simp only [reachBytes] at hz
      omega⟩
  have k1 := h1
  have lt1 : ∀ x ∈ p1, x.block < W.heap.size := by obtain ⟨m, hm⟩ := k1; exact DataW.trod_lt m _ _ _ hm
  obtain ⟨o1, n1, c1, rfl⟩ := okWide_slice Try.underlying22 (hval 1 22 v1 rfl rfl)
  obtain ⟨fu1, hf1⟩ := h1
  simp only [Value.cells] at hf1
  obtain ⟨oo1, nn1, cc1, l1, ev1, sb1, sf1, sc1, sz1⟩ := Fx.open_by hf1
  cases ev1
  have s1 : Fx.ByIn W o1 n1 c1 l1 := ⟨sb1, sf1, sc1, by
    rcases sz1 with h | ⟨D, E, ed, hl⟩
    · omega
    · have hz := sized_slice hsz (j := 1) (t := 22) (e := 5) (elems := D) (spare := E) rfl (by simpa using ed) Try.underlying22
      rw [show Try.checked.prog.bytesOf 5 = 1 by kernel_rfl] at hz
      simp only [reachBytes] at hz
      omega⟩
  clear hA0 hval0
  refine (walk o0 n0 c0 l0 o1 n1 c1 l1 W s0 s1).mono fun e W' ⟨he, bel⟩ => ?_
  subst he
  exact ⟨_, rfl, _, _, _, [], _, [], hW', trodAll_mk1 (shut_bool Try.underlying4 _), (trodAll_cons_mk (Below.trod laidOut (by kernel_rfl) (of_decide_eq_true (by kernel_rfl)) k0 bel lt0) (trodAll_cons_mk (Below.trod laidOut (by kernel_rfl) (of_decide_eq_true (by kernel_rfl)) k1 bel lt1) trodAll_mk0)), rfl, bel.frame _, fun h => by cases h⟩

theorem over : Rows.packFailsRow.holds Try.pinned (OpenSpec.ofChange Rows.packFailsSpec) :=
  OpenClaim.holds_of_wide 3 Try.f3 rfl rfl rfl rfl rfl rfl rfl ⟨rfl, rfl, rfl, rfl, rfl⟩ rfl rfl rfl rfl rfl (by kernel_rfl) Try.func3 (by kernel_rfl)
    (of_decide_eq_true (by kernel_rfl)) (by unfold Func.isWrapper; first | (rw [if_pos (by decide +kernel)]; kernel_rfl) | (rw [if_neg (by decide +kernel)]; exact ⟨rfl, rfl⟩))
    (fun os started H enc _ => lifted os started H enc)

theorem proved : Rows.PackFailsSaid :=
  over
end Go.Proofs.Ytecfnimpakmiaaa.packFails
