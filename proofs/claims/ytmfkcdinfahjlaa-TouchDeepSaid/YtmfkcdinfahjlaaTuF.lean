/- Of, with its points' block new. -/
import Derived.Test.YtmfkcdinfahjlaaTuB
import Derived.Test.YtmfkcdinfahjlaaTcM
namespace Go.Proofs.Ytmfkcdinfahjlaa.Fx
open Go.ChangeShapes Go.WideShapes Go.ChangeAt Go.RowKit
set_option linter.unusedVariables false
def OfF (X Y A K R X2 Y2 A2 K2 R2 : Int) (bd bd2 : Bdy) (nx ny : Int) (l : List Pnt) (ok : Bool) : Prop :=
  ∀ (w : World) (s s2 : Value), BodyAt w X Y A K R s bd → BodyAt w X2 Y2 A2 K2 R2 s2 bd2 → Calls Try.prog 11 #[bodyV 0 X Y 0 0 A 0 0 K R s, bodyV 0 X2 Y2 0 0 A2 0 0 K2 R2 s2] w
    fun e w' => ∃ po c, e = .returned (.tuple #[tchV nx ny po l.length c, .bool ok]) ∧ PtsT w' po l ∧ (∀ g off, po = some ⟨g, off, none⟩ → w.heap.size ≤ g) ∧ Made w.heap.size w w'
theorem of_fresh {X Y A K R X2 Y2 A2 K2 R2 : Int} {bd bd2 : Bdy} {t : Option Tch} {nx ny : Int} {l : List Pnt} {ok : Bool} (et : wantF bd bd2 = t) (e1 : (t.getD noTch).nx = nx) (e2 : (t.getD noTch).ny = ny) (e3 : (t.getD noTch).pts = l) (e4 : t.isSome = ok) :
    OfF X Y A K R X2 Y2 A2 K2 R2 bd bd2 nx ny l ok := by
  intro w s s2 h1 h2
  refine (tof_is X Y A K R X2 Y2 A2 K2 R2 s s2 bd bd2 w h1 h2).mono ?_
  rw [et]
  subst e1; subst e2; subst e3; subst e4
  cases t with
  | none =>
    rintro e w' ⟨rfl, _, k⟩
    exact ⟨none, 0, rfl, fun h => absurd h (by simp [noTch]), fun g off e => (by cases e), k⟩
  | some t =>
    rintro e w' ⟨g, c, hg, rfl, hl, hp, k⟩
    exact ⟨some ⟨g, 0, none⟩, c, rfl, hp, fun g' off e => by simp at e; omega, k⟩
theorem PtsT.low {w : World} {po : Option Addr} {l : List Pnt} (h : PtsT w po l) (hl : 0 < l.length) : ∀ g off, po = some ⟨g, off, none⟩ → g < w.heap.size := fun g off e => by
  obtain ⟨b, o, e2, hb⟩ := h hl
  rw [e] at e2
  simp at e2
  obtain ⟨rfl, rfl⟩ := e2
  exact World.block_lt_of_cell? (a := ⟨g, off + 0 * 4, none⟩) w (hb 0 _ (List.getElem?_eq_getElem hl)).1
theorem PtsT.putN {w : World} {po : Option Addr} {l : List Pnt} {B : Nat} {u v : Value} (h : PtsT w po l) (hb : 0 < l.length → ∀ g off, po = some ⟨g, off, none⟩ → g ≠ B) : PtsT ((w.setCell ⟨B, 0, none⟩ u).setCell ⟨B, 1, none⟩ v) po l := fun hl => by
  obtain ⟨b, o, e2, hh⟩ := h hl
  have ne := hb hl b o e2
  exact ⟨b, o, e2, fun i p hi => ⟨cell_else ne (cell_else ne (hh i p hi).1), cell_else ne (cell_else ne (hh i p hi).2.1), cell_else ne (cell_else ne (hh i p hi).2.2.1), cell_else ne (cell_else ne (hh i p hi).2.2.2)⟩⟩
end Go.Proofs.Ytmfkcdinfahjlaa.Fx
