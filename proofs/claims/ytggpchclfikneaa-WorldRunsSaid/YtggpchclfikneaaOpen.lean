/- What a slice of vectors that came in holds. -/
import Derived.Test.YtggpchclfikneaaShapes
import Derived.Deep.SlicePairs
namespace Go.Proofs.Ytggpchclfikneaa.Fx
open Go.ChangeShapes Go.WideShapes Go.ChangeAt Go.RowKit Go.Deep
set_option linter.unusedVariables false

section
variable {H : Type} {enc : TypeId × Value → H} {w : World} {base : Nat} {spare : Nat → Bool} {held : Bool}
/-- a slice of vectors that came in -/
theorem open_pts {fuel : Nat} {v : Value} {y : DataW H × List MemPlace} (h : DataW.trod enc Try.prog w base spare held fuel 39 [v] = some y) :
    ∃ ao len cap f, v = .slice ao len cap ∧ Sl w ao len f ∧ Cin f len := by
  rcases open_slice_pairs Try.underlying39 Try.underlying26 (by kernel_rfl) rfl rfl (by kernel_rfl) (by kernel_rfl) h with ⟨hcs, _⟩ | ⟨a, len, cap, m, n, V0, V1, D0, D1, P0, P1, hcs, _, _, _, hm, _, hf⟩
  · simp at hcs
    exact ⟨none, 0, 0, fun _ => (0, 0), hcs, fun h => absurd h (by omega), fun i hi => absurd hi (by omega)⟩
  · simp at hcs
    have hlm : len ≤ m := by rw [hm]; split <;> omega
    obtain ⟨f, hc⟩ := choose_lt (α := Int × Int) (n := len) (p := fun i x => (w.cell? (a.add (i * 2)) = some (.int .i64 x.1) ∧ w.cell? (a.add (i * 2 + 1)) = some (.int .i64 x.2)) ∧ I64 x.1 ∧ I64 x.2) (fun i hi => by
      obtain ⟨c0, c1, t0, t1⟩ := hf i (by omega)
      obtain ⟨x, ex, _, wx⟩ := DataW.trod_int Try.underlying24 t0
      obtain ⟨z, ez, _, wz⟩ := DataW.trod_int Try.underlying24 t1
      simp at ex ez
      rw [ex] at c0
      rw [ez] at c1
      exact ⟨(x, z), ⟨c0, c1⟩, I64_wf wx, I64_wf wz⟩)
    refine ⟨some a, len, cap, f, hcs, fun h0 => ?_, fun i hi => (hc i hi).2⟩
    obtain ⟨b, off, spot⟩ := a
    have hspot : spot = none := by simpa [Addr.add] using World.cell?_spot (hc 0 h0).1.1
    subst hspot
    refine ⟨b, off, rfl, fun i hi => ?_⟩
    have := (hc i hi).1
    rw [Addr.add_lit, Addr.add_lit] at this
    exact ⟨this.1, by rw [Nat.add_assoc]; exact this.2⟩
end
end Go.Proofs.Ytggpchclfikneaa.Fx
