/- Layer 16: parts of records, and slices of them, that came in. -/
import Derived.Test.YtfkggnlefblniaaDoorCrO
import Derived.OpenShut
import Derived.ShutString
namespace Go.Proofs.YtfkggnlefblniaaDoor.Fx
open Go.ChangeShapes Go.WideShapes Go.ChangeAt Go.RowKit Go.Deep
set_option linter.unusedVariables false

/-- bytes within a part that came in -/
def ByP (w : World) (ao : Option Addr) (n c : Nat) (f : Nat → Nat) : Prop := By w ao n f ∧ (∀ i, f i < 256) ∧ n ≤ c ∧ n ≤ 9223372036854775807
structure Pr where
  num : Int
  ao : Option Addr
  m : Nat
  c : Nat
  p : Nat → Nat
instance : Inhabited Pr := ⟨⟨0, none, 0, 0, fun _ => 0⟩⟩
def NumI (x : Int) : Prop := -9223372036854775808 ≤ x ∧ x ≤ 9223372036854775807
def PrI (w : World) (x : Pr) : Prop := NumI x.num ∧ ByP w x.ao x.m x.c x.p
/-- parts in memory -/
def PrsAt (w : World) (ao : Option Addr) (n : Nat) (f : Nat → Pr) : Prop := 0 < n → ∃ b off, ao = some ⟨b, off, none⟩ ∧ ∀ i, i < n → w.cell? ⟨b, off + i * 2, none⟩ = some (.int .i64 (f i).num) ∧ w.cell? ⟨b, off + i * 2 + 1, none⟩ = some (.slice (f i).ao (f i).m (f i).c)
def PrsIn (w : World) (ao : Option Addr) (n c : Nat) (f : Nat → Pr) : Prop := PrsAt w ao n f ∧ (∀ i, i < n → PrI w (f i)) ∧ n ≤ c ∧ n ≤ 9223372036854775807
section
variable {H : Type} {enc : TypeId × Value → H} {w : World} {base : Nat} {spare : Nat → Bool} {held : Bool}
theorem open_byP {fuel : Nat} {v : Value} {y : DataW H × List MemPlace} (h : DataW.trod enc Tryd.prog w base spare held fuel 22 [v] = some y) :
    ∃ ao n c f, v = .slice ao n c ∧ ByP w ao n c f := by
  obtain ⟨ao, n, c, f, e, h1, h2, h3, _⟩ := open_by h
  refine ⟨ao, n, c, f, e, h1, h2, h3, ?_⟩
  rcases open_slice Tryd.underlying22 h with ⟨hcs, _⟩ | ⟨a, len, cap, m, n', D, Pl, hcs, _, hlc, hmx, _⟩
  · simp at hcs
    rw [hcs] at e
    cases e
    omega
  · simp at hcs
    rw [hcs] at e
    cases e
    unfold maxLen at hmx
    omega
theorem fld_some16 {β : Type} {xs : List β} {i n : Nat} (hlen : xs.length = n) (hi : i < n) {o : Option β} (h : o = xs[i]?) : ∃ y, o = some y := ⟨xs[i]'(by omega), by rw [h]; exact List.getElem?_eq_getElem (by omega)⟩
theorem open_part {fuel : Nat} {cs : List Value} {y : DataW H × List MemPlace} (h : DataW.trod enc Tryd.prog w base spare held fuel 37 cs = some y) : ∃ x : Pr, cs = [.int .i64 x.num, .slice x.ao x.m x.c] ∧ PrI w x := by
  have cint : Tryd.prog.cellsOf 3 = 1 := by kernel_rfl
  have cL : Tryd.prog.cellsOf 22 = 1 := by kernel_rfl
  have hl : cs.length = 2 := by
    obtain ⟨_, _, _, _, hl, _⟩ := DataW.trod_struct Tryd.underlying37 h
    rw [hl]
    kernel_rfl
  match cs, hl with
  | [v0, v1], _ =>
    obtain ⟨xs1, n1, _, _, hl1, hlen1, hf1⟩ := DataW.trod_struct Tryd.underlying37 h
    obtain ⟨y0, g0⟩ := fld_some16 hlen1 (by simp) (hf1 0 _ rfl)
    have g0 : DataW.trod enc Tryd.prog w base spare held n1 3 [v0] = some y0 := by simpa [cint] using g0
    obtain ⟨a0, ea0, _, wa0⟩ := DataW.trod_int Tryd.underlying3 g0
    simp at ea0
    obtain ⟨y1, g1⟩ := fld_some16 hlen1 (by simp) (hf1 1 _ rfl)
    have g1 : DataW.trod enc Tryd.prog w base spare held n1 22 [v1] = some y1 := by simpa [cint, cL] using g1
    obtain ⟨ao, n, c, f, e, hB⟩ := open_byP g1
    exact ⟨⟨a0, ao, n, c, f⟩, by rw [ea0, e], bounds_i64 wa0, hB⟩
theorem open_parts {fuel : Nat} {v : Value} {y : DataW H × List MemPlace} (h : DataW.trod enc Tryd.prog w base spare held fuel 34 [v] = some y) :
    ∃ ao n c f, v = .slice ao n c ∧ PrsIn w ao n c f := by
  have ck : Tryd.prog.cellsOf 37 = 2 := by kernel_rfl
  rcases open_slice Tryd.underlying34 h with ⟨hcs, _⟩ | ⟨a, len, cap, m, n, D, Pl, hcs, hb, hlc, hmx, hm, _, hx⟩
  · simp at hcs
    exact ⟨none, 0, 0, fun _ => default, hcs, fun h => absurd h (by omega), fun i hi => absurd hi (by omega), Nat.le_refl _, by omega⟩
  · simp at hcs
    rw [ck] at hx
    have hlm : len ≤ m := by rw [hm]; split <;> omega
    obtain ⟨f, hf⟩ := choose_lt' (α := Pr) (n := len) (p := fun i x => (w.cell? (a.add (i * 2)) = some (.int .i64 x.num) ∧ w.cell? ((a.add (i * 2)).add 1) = some (.slice x.ao x.m x.c)) ∧ PrI w x) (fun i hi => by
      obtain ⟨cs', h1, h2⟩ := hx i (by omega)
      obtain ⟨_, hlen, hcell⟩ := World.cells?_some h1
      obtain ⟨x, ex, hI⟩ := open_part h2
      have c0 := hcell 0 (by omega)
      have c1 := hcell 1 (by omega)
      rw [ex] at c0 c1
      rw [add_zero8] at c0
      exact ⟨x, ⟨c0, c1⟩, hI⟩)
    refine ⟨some a, len, cap, f, hcs, fun h0 => ?_, fun i hi => (hf i hi).2, hlc, by unfold maxLen at hmx; omega⟩
    obtain ⟨b, off, spot⟩ := a
    have hspot : spot = none := by simpa [Addr.add] using World.cell?_spot (hf 0 h0).1.1
    subst hspot
    refine ⟨b, off, rfl, fun i hi => ?_⟩
    have := (hf i hi).1
    rw [Addr.add_lit, Addr.add_lit] at this
    exact this
end
end Go.Proofs.YtfkggnlefblniaaDoor.Fx
