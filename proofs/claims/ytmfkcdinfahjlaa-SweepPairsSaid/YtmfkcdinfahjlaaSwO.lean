/- What a slice of items that came in holds. -/
import Derived.Test.YtmfkcdinfahjlaaSwW
import Derived.Deep.SlicePairs
import Derived.Deep.Strs
namespace Go.Proofs.Ytmfkcdinfahjlaa.Fx
open Go.ChangeShapes Go.WideShapes Go.ChangeAt Go.RowKit Go.Deep
set_option linter.unusedVariables false

def ItIn (w : World) (ao : Option Addr) (n c : Nat) (l : List It) : Prop := LsT encI 6 w ao l ∧ l.length = n ∧ n ≤ c ∧ c ≤ maxLen ∧ ItsI l
section
variable {H : Type} {enc : TypeId × Value → H} {w : World} {base : Nat} {spare : Nat → Bool} {held : Bool}
theorem i64_wf' {a : Int} (h : (Lit.int .i64 a).wf = true) : I64 a := by
  have := bounds_i64 h
  unfold I64; omega
set_option maxRecDepth 100000 in
theorem open_vec {fuel : Nat} {c0 c1 : Value} {y : DataW H × List MemPlace} (h : DataW.trod enc Try.prog w base spare held fuel 26 [c0, c1] = some y) : ∃ a b, c0 = .int .i64 a ∧ c1 = .int .i64 b ∧ I64 a ∧ I64 b := by
  obtain ⟨y0, y1, n, _, _, h0, h1⟩ := trod_struct2 Try.underlying26 h
  have ce : Try.prog.cellsOf 24 = 1 := by kernel_rfl
  have g0 : DataW.trod enc Try.prog w base spare held n 24 [c0] = some y0 := by simpa [ce] using h0
  have g1 : DataW.trod enc Try.prog w base spare held n 24 [c1] = some y1 := by simpa [ce] using h1
  obtain ⟨a, ea, _, wa⟩ := DataW.trod_int Try.underlying24 g0
  obtain ⟨b, eb, _, wb⟩ := DataW.trod_int Try.underlying24 g1
  simp at ea eb
  exact ⟨a, b, ea, eb, i64_wf' wa, i64_wf' wb⟩
set_option maxRecDepth 100000 in
theorem open_item {fuel : Nat} {cs : List Value} {y : DataW H × List MemPlace} (h : DataW.trod enc Try.prog w base spare held fuel 61 cs = some y) : ∃ x : It, cs = encI x ∧ ItI x := by
  obtain ⟨y0, y1, y2, n, _, hl, h0, h1, h2⟩ := trod_struct3 Try.underlying61 h
  have c61 : Try.prog.cellsOf 61 = 6 := by kernel_rfl
  have c43 : Try.prog.cellsOf 43 = 4 := by kernel_rfl
  have c26 : Try.prog.cellsOf 26 = 2 := by kernel_rfl
  have c3 : Try.prog.cellsOf 3 = 1 := by kernel_rfl
  have c4 : Try.prog.cellsOf 4 = 1 := by kernel_rfl
  rw [c61] at hl
  match cs, hl with
  | [v0, v1, v2, v3, v4, v5], _ =>
    have g0 : DataW.trod enc Try.prog w base spare held n 3 [v0] = some y0 := by simpa [c3] using h0
    have g1 : DataW.trod enc Try.prog w base spare held n 43 [v1, v2, v3, v4] = some y1 := by simpa [c43] using h1
    have g2 : DataW.trod enc Try.prog w base spare held n 4 [v5] = some y2 := by simpa [c4] using h2
    obtain ⟨a, ea, _, wa⟩ := DataW.trod_int Try.underlying3 g0
    obtain ⟨s, es, _⟩ := DataW.trod_bool Try.underlying4 g2
    obtain ⟨z0, z1, n2, _, _, k0, k1⟩ := trod_struct2 Try.underlying43 g1
    have m0 : DataW.trod enc Try.prog w base spare held n2 26 [v1, v2] = some z0 := by simpa [c26] using k0
    have m1 : DataW.trod enc Try.prog w base spare held n2 26 [v3, v4] = some z1 := by simpa [c26] using k1
    obtain ⟨x1, x2, e1, e2, i1, i2⟩ := open_vec m0
    obtain ⟨x3, x4, e3, e4, i3, i4⟩ := open_vec m1
    simp at ea es
    exact ⟨⟨a, x1, x2, x3, x4, s⟩, by rw [ea, es, e1, e2, e3, e4]; rfl, i64_wf' wa, i1, i2, i3, i4⟩
set_option maxRecDepth 100000 in
theorem open_items {fuel : Nat} {v : Value} {y : DataW H × List MemPlace} (h : DataW.trod enc Try.prog w base spare held fuel 52 [v] = some y) :
    ∃ ao n c l, v = .slice ao n c ∧ ItIn w ao n c l := by
  have c61 : Try.prog.cellsOf 61 = 6 := by kernel_rfl
  rcases open_slice Try.underlying52 h with ⟨hcs, _⟩ | ⟨a, len, cap, m, n, D, Pl, hcs, hb, hlc, hmx, hm, _, hx⟩
  · simp at hcs
    exact ⟨none, 0, 0, [], hcs, fun h => absurd h (by simp), rfl, Nat.le_refl _, by unfold maxLen; omega, fun x hx => by simp at hx⟩
  · simp at hcs
    rw [c61] at hx
    have hlm : len ≤ m := by rw [hm]; split <;> omega
    obtain ⟨f, hf⟩ := choose_lt (α := It) (n := len) (p := fun i x => (∀ j v, (encI x)[j]? = some v → w.cell? ((a.add (i * 6)).add j) = some v) ∧ ItI x) (fun i hi => by
      obtain ⟨cs', h1, h2⟩ := hx i (by omega)
      obtain ⟨_, hlen, hcell⟩ := World.cells?_some h1
      obtain ⟨x, ex, hI⟩ := open_item h2
      refine ⟨x, fun j v hv => ?_, hI⟩
      have hj : j < 6 := by
        have := (List.getElem?_eq_some_iff.1 hv).1
        rwa [encI_len] at this
      rw [hcell j hj, ex]
      exact hv)
    refine ⟨some a, len, cap, (List.range len).map f, hcs, fun h0 => ?_, by simp, hlc, hmx, fun x hx => ?_⟩
    · obtain ⟨b, off, spot⟩ := a
      have hl0 : 0 < len := by simpa using h0
      have q0 := (hf 0 hl0).1 0 _ rfl
      have hspot : spot = none := by simpa [Addr.add] using World.cell?_spot q0
      subst hspot
      refine ⟨b, off, rfl, ?_, fun i x hi j v hv => ?_⟩
      · have := World.block_lt_of_cell? _ _ q0
        simpa [Addr.add_lit] using this
      · have hi' : i < len := by
          have := (List.getElem?_eq_some_iff.1 hi).1
          simpa using this
        have ex : f i = x := by
          rw [List.getElem?_map, List.getElem?_range hi'] at hi
          simpa using hi
        have := (hf i hi').1 j v (by rw [ex]; exact hv)
        rw [Addr.add_lit, Addr.add_lit] at this
        exact this
    · obtain ⟨i, hi, rfl⟩ := List.mem_map.1 hx
      exact (hf i (List.mem_range.1 hi)).2
end
end Go.Proofs.Ytmfkcdinfahjlaa.Fx
