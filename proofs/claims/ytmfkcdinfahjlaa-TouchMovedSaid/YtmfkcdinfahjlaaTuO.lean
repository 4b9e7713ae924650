/- A body of a place, moved. -/
import Derived.Test.YtmfkcdinfahjlaaTuB
import Derived.Test.YtmfkcdinfahjlaaTuN
namespace Go.Proofs.Ytmfkcdinfahjlaa.Fx
open Go.ChangeShapes Go.WideShapes Go.ChangeAt Go.RowKit
set_option linter.unusedVariables false

/-- the body of a place, and where it is when it is moved -/
theorem place_is2 (a b c d x y an : Int) (ix : I64 x) (iy : I64 y) (bx b_y : Int) (hb : -4294967296000 ≤ bx ∧ bx ≤ 4294967296000) (hb2 : -4294967296000 ≤ b_y ∧ b_y ≤ 4294967296000) :
    ∃ X Y A K R ao sn ac bd bd', PlaceW X Y A K R ao sn ac bd ∧ addF X bx = X + bx ∧ addF Y b_y = Y + b_y ∧
      ((∃ r, bd = .disc (X, Y) r ∧ bd' = .disc (mv (bx, b_y) (X, Y)) r ∧ 0 < r ∧ r ≤ 17179869184 ∧ Ne Bq (X, Y)) ∨ (∃ P P' n, bd = .poly P n ∧ bd' = .poly P' n ∧ 0 < n ∧ ∀ i, i < n → Ne Bq (P i) ∧ P' i = mv (bx, b_y) (P i))) ∧
      ∀ w, Calls Try.prog 10 #[placeV a b c d x y an] w fun e w' =>
        ∃ g e', e = .returned (bodyV 0 X Y 0 0 A 0 0 K R (.slice (ao g) sn (ac e'))) ∧ w.heap.size ≤ g ∧ g < w'.heap.size ∧ (BodyAt w' X Y A K R (.slice (ao g) sn (ac e')) bd ∧ BodyAt w' (X + bx) (Y + b_y) A K R (.slice (ao g) sn (ac e')) bd') ∧ Made w.heap.size w w' := by
  have bX := thou_bd ix
  have bY := thou_bd iy
  have iX : I64 (thou x) := by unfold I64; omega
  have iY : I64 (thou y) := by unfold I64; omega
  have iX2 : I64 (thou x + bx) := by unfold I64; omega
  have iY2 : I64 (thou y + b_y) := by unfold I64; omega
  have iA : I64 (an % 4294967296) := by unfold I64; omega
  have i0 : I64 0 := by unfold I64; omega
  have e1 : addF (thou x) bx = thou x + bx := add_fa (by unfold Fa; omega) (by unfold Fa; omega)
  have e2 : addF (thou y) b_y = thou y + b_y := add_fa (by unfold Fa; omega) (by unfold Fa; omega)
  rcases seed_det a b c d with ⟨R, h⟩ | ⟨n, gx, gy, gk, h⟩
  · have h1 := h.1
    have h2 := h.2.1
    have iR : I64 R := by unfold I64; omega
    refine ⟨thou x, thou y, an % 4294967296, 1, R, fun _ => none, 0, fun _ => 0, .disc (thou x, thou y) R, .disc (mv (bx, b_y) (thou x, thou y)) R, ⟨bX, bY, by omega, .inl ⟨rfl, fun _ => rfl, rfl, fun _ => rfl, ⟨h.1, h.2.1⟩, rfl⟩⟩, e1, e2, .inl ⟨R, rfl, rfl, by omega, by omega, by unfold Ne Bq; simp only []; omega⟩, fun w => ?_⟩
    refine (place_circle' h x y an _ _ _ w ix iy rfl rfl rfl).mono ?_
    rintro e w' ⟨rfl, hs, k⟩
    exact ⟨w.heap.size, 0, rfl, Nat.le_refl _, hs, ⟨⟨iX, iY, iA, iR, .inl ⟨rfl, rfl, rfl⟩⟩, ⟨iX2, iY2, iA, iR, .inl ⟨rfl, rfl, rfl⟩⟩⟩, k⟩
  · have g3 := h.1.n0
    have g8 := h.1.n1
    refine ⟨thou x, thou y, an % 4294967296, 2, 0, fun g => some ⟨g, 0, none⟩, n, fun c => c, _, _, ⟨bX, bY, by omega, .inr ⟨rfl, rfl, fun _ => rfl, g3, g8, gx, gy, gk, h.1, h.2.1, rfl⟩⟩, e1, e2, .inr ⟨_, _, n, rfl, rfl, by omega, fun i hi => place_mv (cn_cs _) (cn_sn _) (grid_tiny h.1) bX bY hb hb2 hi⟩, fun w => ?_⟩
    refine (place_poly h x y an _ _ _ w ix iy rfl rfl rfl).mono ?_
    rintro e w' ⟨g, c', rfl, hg, hr, k⟩
    exact ⟨g, c', rfl, hg, hr.here, ⟨⟨iX, iY, iA, i0, .inr ⟨rfl, rfl, g, 0, n, c', _, rfl, g3, g8, hr.pts, grid_i64 h.1, rfl⟩⟩, ⟨iX2, iY2, iA, i0, .inr ⟨rfl, rfl, g, 0, n, c', _, rfl, g3, g8, hr.pts, grid_i64 h.1, rfl⟩⟩⟩, k⟩
/-- what moved bodies touch like -/
theorem moved_want {X Y X2 Y2 bx b_y : Int} {bd bd' bd2 bd2' : Bdy} (hb : -4294967296000 ≤ bx ∧ bx ≤ 4294967296000) (hb2 : -4294967296000 ≤ b_y ∧ b_y ≤ 4294967296000)
    (h1 : (∃ r, bd = .disc (X, Y) r ∧ bd' = .disc (mv (bx, b_y) (X, Y)) r ∧ 0 < r ∧ r ≤ 17179869184 ∧ Ne Bq (X, Y)) ∨ (∃ P P' n, bd = .poly P n ∧ bd' = .poly P' n ∧ 0 < n ∧ ∀ i, i < n → Ne Bq (P i) ∧ P' i = mv (bx, b_y) (P i)))
    (h2 : (∃ r, bd2 = .disc (X2, Y2) r ∧ bd2' = .disc (mv (bx, b_y) (X2, Y2)) r ∧ 0 < r ∧ r ≤ 17179869184 ∧ Ne Bq (X2, Y2)) ∨ (∃ P P' n, bd2 = .poly P n ∧ bd2' = .poly P' n ∧ 0 < n ∧ ∀ i, i < n → Ne Bq (P i) ∧ P' i = mv (bx, b_y) (P i))) :
    MovedT (bx, b_y) (wantF bd bd2) (wantF bd' bd2') := by
  have hc : Ne Bq (bx, b_y) := by unfold Ne Bq; simp only []; omega
  rcases h1 with ⟨r, rfl, rfl, r0, r1, hX⟩ | ⟨P, P', n, rfl, rfl, hn, hP⟩ <;> rcases h2 with ⟨s, rfl, rfl, s0, s1, hX2⟩ | ⟨Q, Q', m, rfl, rfl, hm, hQ⟩
  · exact moved_rounds hX hX2 hc ⟨r0, r1⟩ ⟨s0, s1⟩
  · exact (moved_mixed hm (fun i hi => (hQ i hi).1) hX hc ⟨by omega, by omega⟩ (fun i hi => (hQ i hi).2)).neg
  · exact moved_mixed hn (fun i hi => (hP i hi).1) hX2 hc ⟨by omega, by omega⟩ (fun i hi => (hP i hi).2)
  · exact moved_polys hn hm (fun i hi => (hP i hi).1) (fun i hi => (hQ i hi).1) hc (fun i hi => (hP i hi).2) (fun i hi => (hQ i hi).2)
end Go.Proofs.Ytmfkcdinfahjlaa.Fx
