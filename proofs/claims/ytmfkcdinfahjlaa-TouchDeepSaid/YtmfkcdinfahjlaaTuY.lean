/- The rectangle of a body of a place, whatever its kind. -/
import Derived.Test.YtmfkcdinfahjlaaTuGeo
import Derived.Test.YtmfkcdinfahjlaaTuB
import Derived.Test.YtmfkcdinfahjlaaBoxO
namespace Go.Proofs.Ytmfkcdinfahjlaa.Fx
open Go.ChangeShapes Go.WideShapes Go.ChangeAt Go.RowKit
set_option linter.unusedVariables false

theorem addx {a b : Int} (ha : Rg a) (hb : Rg b) (h : Rg (a + b)) : addF a b = a + b := by rw [addR ha hb, satR h]
def In44 (z : Int) : Prop := -4402341478400 ≤ z ∧ z ≤ 4402341478400
theorem in_b {X Y A K R : Int} {ao : Nat → Option Addr} {sn : Nat} {ac : Nat → Nat} {bd : Bdy} (h : PlaceW X Y A K R ao sn ac bd) : InB bd := by
  have hX := h.X0
  have hY := h.Y0
  have hA := h.A0
  rcases h.kind with ⟨_, _, _, _, hR, rfl⟩ | ⟨_, _, _, h3, h8, gx, gy, gk, hg, har, rfl⟩
  · exact ⟨hX, hY, by omega, by omega⟩
  · have st := step_at hA.1 hA.2
    exact ⟨gx, gy, gk, _, _, X, Y, ⟨hg, har.2.2, cn_cs _, cn_sn _, (norm_near (stepF A) (by omega) (by omega)).1, by unfold Pl; omega, by unfold Pl; omega⟩, hX, hY, rfl⟩
theorem Good.at {l : List Pnt} (h : Good l) : 1 ≤ l.length ∧ l.length ≤ 2 ∧ ∀ (i : Nat) p, l[i]? = some p → (0 < p.d ∧ 0 ≤ p.k) ∧ (i ≠ 0 → ∀ p0, l[0]? = some p0 → p.k ≠ p0.k) := by
  rcases h with ⟨p, rfl, h1, h2⟩ | ⟨p, q, rfl, h1, h2, h3⟩
  · refine ⟨by simp, by simp, fun i r hr => ?_⟩
    match i, hr with
    | 0, hr => simp at hr; subst hr; exact ⟨⟨h1, h2⟩, fun h => absurd rfl h⟩
    | i + 1, hr => simp at hr
  · refine ⟨by simp, by simp, fun i r hr => ?_⟩
    match i, hr with
    | 0, hr => simp at hr; subst hr; exact ⟨h1, fun h => absurd rfl h⟩
    | 1, hr => simp at hr; subst hr; exact ⟨h2, fun _ p0 h0 => by simp at h0; subst h0; exact h3⟩
    | i + 2, hr => simp at hr
theorem ext_in {f : Nat → Int} {n : Nat} {a b : Int} (h : Ext f n a b) (hb : ∀ i, i < n → In44 (f i)) : In44 a ∧ In44 b := by
  obtain ⟨_, ⟨i, hi, rfl⟩, ⟨j, hj, rfl⟩⟩ := h
  exact ⟨hb i hi, hb j hj⟩
theorem box_any {X Y A K R : Int} {ao : Nat → Option Addr} {sn : Nat} {ac : Nat → Nat} {bd : Bdy} (hW : PlaceW X Y A K R ao sn ac bd) : ∃ lx ly hx hy, BoxB bd lx ly hx hy ∧ (In44 lx ∧ In44 ly ∧ In44 hx ∧ In44 hy) ∧
    ∀ w g e, BodyAt w X Y A K R (.slice (ao g) sn (ac e)) bd → Calls Try.prog 14 #[bodyV 0 X Y 0 0 A 0 0 K R (.slice (ao g) sn (ac e))] w fun e w' => e = .returned (rectV lx ly hx hy) ∧ Made w.heap.size w w' := by
  obtain ⟨iX, iY, iA, iR⟩ := hW.i64
  have hX := hW.X0
  have hY := hW.Y0
  have hb := in_b hW
  rcases hW.kind with ⟨rfl, h1, rfl, h2, hR, rfl⟩ | ⟨rfl, rfl, h1, h3, h8, gx, gy, gk, hg, har, rfl⟩
  · have e1 : subF X R = X - R := sub_exact (by unfold Rg; omega) (by unfold Rg; omega) (by unfold Rg; omega)
    have e2 : subF Y R = Y - R := sub_exact (by unfold Rg; omega) (by unfold Rg; omega) (by unfold Rg; omega)
    have e3 : addF X R = X + R := addx (by unfold Rg; omega) (by unfold Rg; omega) (by unfold Rg; omega)
    have e4 : addF Y R = Y + R := addx (by unfold Rg; omega) (by unfold Rg; omega) (by unfold Rg; omega)
    refine ⟨X - R, Y - R, X + R, Y + R, ⟨rfl, rfl, rfl, rfl⟩, by unfold In44; omega, fun w g e hb => ?_⟩
    rw [h1, h2, ← e1, ← e2, ← e3, ← e4]
    exact disc_is X Y A R w iX iY iR
  · obtain ⟨x, y, k, c, s, X', Y', hin, hX', hY', eP⟩ := hb
    have co := hin.corners hX' hY'
    rw [← eP] at co
    obtain ⟨lx, hx, ex⟩ := Ext.has (fun i => (placeF (grid gx gy gk) (cs (stepF A)) (Fx.sn (stepF A)) X Y i).1) sn (by omega)
    obtain ⟨ly, hy, ey⟩ := Ext.has (fun i => (placeF (grid gx gy gk) (cs (stepF A)) (Fx.sn (stepF A)) X Y i).2) sn (by omega)
    have b1 := ext_in ex (fun i hi => (co i hi).1)
    have b2 := ext_in ey (fun i hi => (co i hi).2)
    refine ⟨lx, ly, hx, hy, ⟨ex, ey⟩, ⟨b1.1, b2.1, b1.2, b2.2⟩, fun w g0 e0 hb => ?_⟩
    rw [h1]
    obtain ⟨_, _, _, _, hb⟩ := hb
    rcases hb with ⟨h, _⟩ | ⟨_, _, b, off, n, cap, f, hs, n3, n8, hp, hi, hbd⟩
    · omega
    · rw [h1] at hs
      simp at hs
      obtain ⟨⟨rfl, rfl⟩, rfl, rfl⟩ := hs
      injection hbd with hbd _
      rw [hbd] at ex ey
      exact poly_is X Y A g0 0 sn (ac e0) f lx hx ly hy w iX iY iA (by omega) h8 hp hi ex ey
/-- the first rectangle, grown, and whether it meets the second -/
theorem grow_any {lx ly hx hy : Int} (h : In44 lx ∧ In44 ly ∧ In44 hx ∧ In44 hy) (w : World) :
    Calls Try.prog 13 #[rectV lx ly hx hy, .int .i64 67108864] w fun e w' => e = .returned (rectV (lx - 67108864) (ly - 67108864) (hx + 67108864) (hy + 67108864)) ∧ Made w.heap.size w w' := by
  unfold In44 at h
  exact grow_is lx ly hx hy 67108864 _ _ _ _ w (by unfold I64; omega) (by unfold I64; omega) (by unfold I64; omega) (by unfold I64; omega) (by unfold I64; omega)
    (sub_exact (by unfold Rg; omega) (by unfold Rg; omega) (by unfold Rg; omega)) (sub_exact (by unfold Rg; omega) (by unfold Rg; omega) (by unfold Rg; omega))
    (addx (by unfold Rg; omega) (by unfold Rg; omega) (by unfold Rg; omega)) (addx (by unfold Rg; omega) (by unfold Rg; omega) (by unfold Rg; omega))
theorem meets_any {l1 l2 h1 h2 m1 m2 k1 k2 : Int} (h : In44 l1 ∧ In44 l2 ∧ In44 h1 ∧ In44 h2) (h' : In44 m1 ∧ In44 m2 ∧ In44 k1 ∧ In44 k2) (hn : Near l1 l2 h1 h2 m1 m2 k1 k2) (w : World) :
    Calls Try.prog 12 #[rectV (l1 - 67108864) (l2 - 67108864) (h1 + 67108864) (h2 + 67108864), rectV m1 m2 k1 k2] w fun e w' => e = .returned (.bool true) ∧ Made w.heap.size w w' := by
  unfold In44 at h h'
  unfold Near at hn
  exact meet_is _ _ _ _ _ _ _ _ true w (by unfold Rg; omega) (by unfold Rg; omega) (by unfold Rg; omega) (by unfold Rg; omega) (by unfold Rg; omega) (by unfold Rg; omega) (by unfold Rg; omega) (by unfold Rg; omega) ⟨fun _ => by omega, fun _ => rfl⟩
theorem veq_zero : ∀ w, (binOp .eql 26 (vecV 0 0) (vecV 0 0)).run Try.prog w = .ok (.bool true) w := fun w => by go_simp
end Go.Proofs.Ytmfkcdinfahjlaa.Fx
