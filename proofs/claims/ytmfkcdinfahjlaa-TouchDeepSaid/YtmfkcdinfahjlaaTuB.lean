/- Two bodies of places stored in variables: what stays there. -/
import Derived.Test.YtmfkcdinfahjlaaTuA
import Derived.Test.YtmfkcdinfahjlaaTouchY
namespace Go.Proofs.Ytmfkcdinfahjlaa.Fx
open Go.ChangeShapes Go.WideShapes Go.ChangeAt Go.RowKit
set_option linter.unusedVariables false
theorem BodyAt.away {w v : World} {X Y A K R : Int} {ao : Nat → Option Addr} {g sn c : Nat} {bd : Bdy} (h : BodyAt w X Y A K R (.slice (ao g) sn c) bd) (hk : ao g = none ∨ ao g = some ⟨g, 0, none⟩) (hv : ∀ i, v.cell? ⟨g, i, none⟩ = w.cell? ⟨g, i, none⟩) :
    BodyAt v X Y A K R (.slice (ao g) sn c) bd := by
  obtain ⟨h0, h1, h2, h3, h4⟩ := h
  refine ⟨h0, h1, h2, h3, h4.imp id ?_⟩
  rintro ⟨hK, hR, b, off, n, cap, f, hs, n3, n8, hp, r⟩
  refine ⟨hK, hR, b, off, n, cap, f, hs, n3, n8, ?_, r⟩
  have e : ao g = some ⟨b, off, none⟩ := by simp at hs; exact hs.1
  rcases hk with hk | hk
  · rw [hk] at e; cases e
  · rw [hk] at e
    simp at e
    obtain ⟨rfl, rfl⟩ := e
    intro i hi
    exact ⟨(hv _).trans (hp i hi).1, (hv _).trans (hp i hi).2⟩
theorem cell_put11 (w : World) (g B i : Nat) (hg : g ≠ B) (v0 v1 v2 v3 v4 v5 v6 v7 v8 v9 v10 : Value) :
    (((((((((((w.setCell ⟨B, 0, none⟩ v0).setCell ⟨B, 1, none⟩ v1).setCell ⟨B, 2, none⟩ v2).setCell ⟨B, 3, none⟩ v3).setCell ⟨B, 4, none⟩ v4).setCell ⟨B, 5, none⟩ v5).setCell ⟨B, 6, none⟩ v6).setCell ⟨B, 7, none⟩ v7).setCell ⟨B, 8, none⟩ v8).setCell ⟨B, 9, none⟩ v9).setCell ⟨B, 10, none⟩ v10).cell? ⟨g, i, none⟩ = w.cell? ⟨g, i, none⟩ := by
  have h : ∀ (u : World) (j : Nat) (v : Value), (u.setCell ⟨B, j, none⟩ v).cell? ⟨g, i, none⟩ = u.cell? ⟨g, i, none⟩ := fun u j v => World.cell?_of_block (Below.heap_setCell u ⟨B, j, none⟩ v g hg)
  rw [h, h, h, h, h, h, h, h, h, h, h]
theorem has_put11 {w : World} {g B : Nat} {t : TypeId} {cs : Array Value} (hh : Has w g t cs) (hg : g ≠ B) (v0 v1 v2 v3 v4 v5 v6 v7 v8 v9 v10 : Value) :
    Has (((((((((((w.setCell ⟨B, 0, none⟩ v0).setCell ⟨B, 1, none⟩ v1).setCell ⟨B, 2, none⟩ v2).setCell ⟨B, 3, none⟩ v3).setCell ⟨B, 4, none⟩ v4).setCell ⟨B, 5, none⟩ v5).setCell ⟨B, 6, none⟩ v6).setCell ⟨B, 7, none⟩ v7).setCell ⟨B, 8, none⟩ v8).setCell ⟨B, 9, none⟩ v9).setCell ⟨B, 10, none⟩ v10) g t cs := by
  have h1 := hh.other ⟨B, 0, none⟩ hg v0
  have h2 := h1.other ⟨B, 1, none⟩ hg v1
  have h3 := h2.other ⟨B, 2, none⟩ hg v2
  have h4 := h3.other ⟨B, 3, none⟩ hg v3
  have h5 := h4.other ⟨B, 4, none⟩ hg v4
  have h6 := h5.other ⟨B, 5, none⟩ hg v5
  have h7 := h6.other ⟨B, 6, none⟩ hg v6
  have h8 := h7.other ⟨B, 7, none⟩ hg v7
  have h9 := h8.other ⟨B, 8, none⟩ hg v8
  have h10 := h9.other ⟨B, 9, none⟩ hg v9
  exact h10.other ⟨B, 10, none⟩ hg v10
theorem PlaceW.ao_ {X Y A K R : Int} {ao : Nat → Option Addr} {sn : Nat} {ac : Nat → Nat} {bd : Bdy} (h : PlaceW X Y A K R ao sn ac bd) (g : Nat) : ao g = none ∨ ao g = some ⟨g, 0, none⟩ := by
  rcases h.kind with ⟨_, h, _⟩ | ⟨_, _, h, _⟩
  · exact .inl (h g)
  · exact .inr (h g)
/-- Of and Wanted, in letters -/
def OfL (k1 : Nat) (X Y A K R X2 Y2 A2 K2 R2 : Int) (bd bd2 : Bdy) (nx ny : Int) (l : List Pnt) (ok : Bool) : Prop :=
  ∀ (w : World) (s s2 : Value), BodyAt w X Y A K R s bd → BodyAt w X2 Y2 A2 K2 R2 s2 bd2 → Calls Try.prog k1 #[bodyV 0 X Y 0 0 A 0 0 K R s, bodyV 0 X2 Y2 0 0 A2 0 0 K2 R2 s2] w
    fun e w' => ∃ po c, e = .returned (.tuple #[tchV nx ny po l.length c, .bool ok]) ∧ PtsT w' po l ∧ Made w.heap.size w w'
theorem ofL (TS : TouchSays) {X Y A K R X2 Y2 A2 K2 R2 : Int} {bd bd2 : Bdy} {t : Option Tch} {nx ny : Int} {l : List Pnt} {ok : Bool} (et : wantF bd bd2 = t) (e1 : (t.getD noTch).nx = nx) (e2 : (t.getD noTch).ny = ny) (e3 : (t.getD noTch).pts = l) (e4 : t.isSome = ok) :
    OfL 11 X Y A K R X2 Y2 A2 K2 R2 bd bd2 nx ny l ok := by
  subst et; subst e1; subst e2; subst e3; subst e4
  intro w s s2 h1 h2
  exact TS.of X Y A K R X2 Y2 A2 K2 R2 s s2 bd bd2 w h1 h2
end Go.Proofs.Ytmfkcdinfahjlaa.Fx
