/- Bytes that came in; the table that is laid. -/
import Derived.Test.YtmdhlobonnikcaaDoorCrA
import Derived.Deep.Slices
import Derived.ChangeArms
namespace Go.Proofs.YtmdhlobonnikcaaDoor.Fx
open Go.ChangeShapes Go.WideShapes Go.ChangeAt Go.RowKit Go.Deep
set_option linter.unusedVariables false

theorem choose_lt' {α : Type} [Inhabited α] {n : Nat} {p : Nat → α → Prop} (h : ∀ i, i < n → ∃ x, p i x) : ∃ f : Nat → α, ∀ i, i < n → p i (f i) :=
  ⟨fun i => if hi : i < n then Classical.choose (h i hi) else default, fun i hi => by simp only [hi, dif_pos]; exact Classical.choose_spec (h i hi)⟩
theorem add_zero8 (a : Addr) : a.add 0 = a := by cases a with | mk b o s => cases s <;> simp [Addr.add]
def ByIn (w : World) (ao : Option Addr) (n c : Nat) (f : Nat → Nat) : Prop := By w ao n f ∧ (∀ i, f i < 256) ∧ n ≤ c ∧ n ≤ 140737488351232
section
variable {H : Type} {enc : TypeId × Value → H} {w : World} {base : Nat} {spare : Nat → Bool} {held : Bool}
theorem open_by {fuel : Nat} {v : Value} {y : DataW H × List MemPlace} (h : DataW.trod enc Tryd.prog w base spare held fuel 38 [v] = some y) :
    ∃ ao n c f, v = .slice ao n c ∧ By w ao n f ∧ (∀ i, f i < 256) ∧ n ≤ c ∧ (n = 0 ∨ ∃ D E, y.1 = .slice D E ∧ D.length = n) := by
  have ck : Tryd.prog.cellsOf 5 = 1 := by kernel_rfl
  rcases open_slice Tryd.underlying38 h with ⟨hcs, _⟩ | ⟨a, len, cap, m, n, D, Pl, hcs, hb, hlc, hmx, hm, ey, hx⟩
  · simp at hcs
    exact ⟨none, 0, 0, fun _ => 0, hcs, fun h => absurd h (by omega), fun i => (by decide : (0 : Nat) < 256), Nat.le_refl _, .inl rfl⟩
  · simp at hcs
    rw [ck] at hx
    have hlm : len ≤ m := by rw [hm]; split <;> omega
    obtain ⟨f, hf⟩ := choose_lt' (α := Nat) (n := len) (p := fun i x => w.cell? (a.add i) = some (.int .u8 (x : Nat)) ∧ x < 256) (fun i hi => by
      obtain ⟨cs', h1, h2⟩ := hx i (by omega)
      obtain ⟨_, hlen, hcell⟩ := World.cells?_some h1
      match cs', hlen with
      | [v0], _ =>
        obtain ⟨x, ex, _, wx⟩ := DataW.trod_int Tryd.underlying5 h2
        simp at ex
        have hc0 := hcell 0 (by omega)
        rw [Nat.mul_one] at hc0
        have hbd := bounds_u8 wx
        refine ⟨x.toNat, ?_, by omega⟩
        rw [ex, add_zero8] at hc0
        rw [show ((x.toNat : Nat) : Int) = x by omega]
        simpa using hc0)
    refine ⟨some a, len, cap, fun i => if i < len then f i else 0, hcs, fun h0 => ?_, fun i => ?_, hlc, .inr ⟨_, _, by rw [ey], by simp⟩⟩
    · obtain ⟨b, off, spot⟩ := a
      have hspot : spot = none := by simpa [Addr.add] using World.cell?_spot (hf 0 h0).1
      subst hspot
      refine ⟨b, off, rfl, fun i hi => ?_⟩
      have := (hf i hi).1
      rw [Addr.add_lit] at this
      show w.cell? ⟨b, off + i, none⟩ = some (.int .u8 ((if i < len then f i else 0 : Nat) : Int))
      rw [if_pos hi]
      exact this
    · show (if i < len then f i else 0) < 256
      split
      · rename_i hi
        exact (hf i hi).2
      · omega
theorem okWide_arr {r : Reach} {b0 m : Nat} {t e : TypeId} {v : Value} {P : Program} (ht : P.underlying t = some (.array m e)) (h : Value.okWide P w r b0 t v) : ∃ cs, v = .agg cs ∧ cs.size = P.cellsOf t := by
  simp only [Value.okWide, ht] at h
  obtain ⟨cs, h1, h2, _⟩ := h
  exact ⟨cs, h1, h2⟩
theorem open_arr4 {P : Program} {r : Reach} {b0 : Nat} {t e : TypeId} {v : Value} {d : DataW H} {p : List MemPlace} (hs : P.underlying t = some (.array 4 e)) (hce : P.cellsOf e = 1) (hC : P.cellsOf t = 4)
    (hv : Value.okWide P w r b0 t v) (h : DataW.Trod enc P w base spare held t v d p) :
    ∃ (v0 v1 v2 v3 : Value) (y0 y1 y2 y3 : DataW H × List MemPlace) (n : Nat), v = .agg #[v0, v1, v2, v3] ∧ d = .agg [y0.1, y1.1, y2.1, y3.1] ∧ p = y0.2 ++ (y1.2 ++ (y2.2 ++ y3.2)) ∧
      DataW.trod enc P w base spare held n e [v0] = some y0 ∧ DataW.trod enc P w base spare held n e [v1] = some y1 ∧ DataW.trod enc P w base spare held n e [v2] = some y2 ∧ DataW.trod enc P w base spare held n e [v3] = some y3 := by
  obtain ⟨cs, rfl, hsz⟩ := okWide_arr hs hv
  have h4 : cs.size = 4 := hsz.trans hC
  obtain ⟨c0, c1, c2, c3, rfl⟩ : ∃ c0 c1 c2 c3, cs = #[c0, c1, c2, c3] := by
    match cs, h4 with
    | ⟨[c0, c1, c2, c3]⟩, _ => exact ⟨c0, c1, c2, c3, rfl⟩
  obtain ⟨fuel, hf⟩ := h
  simp only [Value.cells] at hf
  cases fuel with
  | zero => simp [DataW.trod] at hf
  | succ n =>
    unfold DataW.trod at hf
    rw [hs] at hf
    have r4 : List.range 4 = [0, 1, 2, 3] := rfl
    simp [r4, hce] at hf
    obtain ⟨_, hf⟩ := hf
    cases h0 : DataW.trod enc P w base spare held n e [c0] with
    | none => simp [h0] at hf
    | some y0 =>
      cases h1 : DataW.trod enc P w base spare held n e [c1] with
      | none => simp [h0, h1] at hf
      | some y1 =>
        cases h2 : DataW.trod enc P w base spare held n e [c2] with
        | none => simp [h0, h1, h2] at hf
        | some y2 =>
          cases h3 : DataW.trod enc P w base spare held n e [c3] with
          | none => simp [h0, h1, h2, h3] at hf
          | some y3 =>
            simp [h0, h1, h2, h3] at hf
            obtain ⟨rfl, rfl⟩ := hf
            exact ⟨c0, c1, c2, c3, y0, y1, y2, y3, n, rfl, rfl, rfl, h0, h1, h2, h3⟩
end
end Go.Proofs.YtmdhlobonnikcaaDoor.Fx
