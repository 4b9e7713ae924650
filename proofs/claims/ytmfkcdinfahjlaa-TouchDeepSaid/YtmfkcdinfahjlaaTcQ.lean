/- A touch, or none, is answered: with the block of its points new. -/
import Derived.Test.YtmfkcdinfahjlaaTcA
namespace Go.Proofs.Ytmfkcdinfahjlaa.Fx
open Go.ChangeShapes Go.WideShapes Go.ChangeAt Go.RowKit
set_option linter.unusedVariables false

def TouchQ : Option Tch → World → Ending → World → Prop
  | none, w, e, w' => e = .returned (.tuple #[tchV 0 0 none 0 0, .bool false]) ∧ w.heap.size < w'.heap.size ∧ Made w.heap.size w w'
  | some t, w, e, w' => ∃ g c, w.heap.size ≤ g ∧ e = .returned (.tuple #[tchV t.nx t.ny (some ⟨g, 0, none⟩) t.pts.length c, .bool true]) ∧ 0 < t.pts.length ∧ PtsT w' (some ⟨g, 0, none⟩) t.pts ∧ Made w.heap.size w w'
theorem TouchQ.r {t : Option Tch} {w : World} {e : Ending} {w' : World} (h : TouchQ t w e w') : TouchR t w e w' := by
  cases t with
  | none => obtain ⟨rfl, _, k⟩ := h; exact touch_none k
  | some t => obtain ⟨g, c, _, rfl, _, hp, k⟩ := h; exact ⟨some ⟨g, 0, none⟩, c, rfl, hp, k⟩
theorem TouchQ.made {t : Option Tch} {w : World} {e : Ending} {w' : World} (h : TouchQ t w e w') : Made w.heap.size w w' := by
  cases t with
  | none => exact h.2.2
  | some t => obtain ⟨g, c, _, _, _, _, k⟩ := h; exact k
/-- what is answered, by the block of its points -/
def ansV : Option Tch → Nat → Nat → Value
  | none, _, _ => .tuple #[tchV 0 0 none 0 0, .bool false]
  | some t, g, c => .tuple #[tchV t.nx t.ny (some ⟨g, 0, none⟩) t.pts.length c, .bool true]
def ansP : Option Tch → World → Nat → Prop
  | none, _, _ => True
  | some t, v, g => 0 < t.pts.length ∧ PtsT v (some ⟨g, 0, none⟩) t.pts
theorem ansP.kept {t : Option Tch} {u v : World} {g : Nat} (h : ansP t u g) (k : Made u.heap.size u v) : ansP t v g := by
  cases t with
  | none => trivial
  | some t => exact ⟨h.1, h.2.kept k⟩
theorem TouchQ.ans {t : Option Tch} {w : World} {e : Ending} {w' : World} (h : TouchQ t w e w') : ∃ g c, e = .returned (ansV t g c) ∧ w.heap.size ≤ g ∧ g < w'.heap.size ∧ ansP t w' g ∧ Made w.heap.size w w' := by
  cases t with
  | none => exact ⟨w.heap.size, 0, h.1, Nat.le_refl _, h.2.1, trivial, h.2.2⟩
  | some t =>
    obtain ⟨g, c, hg, e, hl, hp, k⟩ := h
    refine ⟨g, c, e, hg, ?_, ⟨hl, hp⟩, k⟩
    obtain ⟨b, off, eb, hb⟩ := hp hl
    simp at eb
    obtain ⟨rfl, rfl⟩ := eb
    exact World.block_lt_of_cell? (a := ⟨g, 0 + 0 * 4, none⟩) w' (hb 0 _ (List.getElem?_eq_getElem hl)).1
theorem touchq_none {w w' : World} (hs : w.heap.size < w'.heap.size) (k : Made w.heap.size w w') : TouchQ none w (.returned (.tuple #[tchV 0 0 none 0 0, .bool false])) w' := ⟨rfl, hs, k⟩
theorem touchq_one {w w' : World} {nx ny ax ay d k : Int} {b c : Nat} (hb : w.heap.size ≤ b) (h0 : w'.cell? ⟨b, 0, none⟩ = some (.int .i64 ax)) (h1 : w'.cell? ⟨b, 1, none⟩ = some (.int .i64 ay)) (h2 : w'.cell? ⟨b, 2, none⟩ = some (.int .i64 d)) (h3 : w'.cell? ⟨b, 3, none⟩ = some (.int .i64 k)) (hk : Made w.heap.size w w') :
    TouchQ (some (oneT (nx, ny) (ax, ay) d k)) w (.returned (.tuple #[tchV nx ny (some ⟨b, 0, none⟩) 1 c, .bool true])) w' := by
  have := touch_one (w := w) (w' := w') (nx := nx) (ny := ny) (c := c) h0 h1 h2 h3 hk
  obtain ⟨ao, c', e, hp, hk⟩ := this
  refine ⟨b, c, hb, rfl, by show 0 < 1; omega, ?_, hk⟩
  have e1 : ao = some ⟨b, 0, none⟩ := by
    have := e
    simp [oneT, tchV] at this
    exact this.1.symm
  subst e1
  exact hp
end Go.Proofs.Ytmfkcdinfahjlaa.Fx
