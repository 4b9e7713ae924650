/- What a seed's shape weighs: one word for circles and polygons; Below over makings. -/
import Derived.Test.YtahbnbaldoblaaaMassJ
import Derived.Test.YtahbnbaldoblaaaShapeG
namespace Go.Proofs.Ytahbnbaldoblaaa.Fx
open Go.ChangeShapes Go.WideShapes Go.ChangeAt Go.RowKit
set_option linter.unusedVariables false

/-- a shape that lies in w: its area A and round B, by the program and by the statements -/
structure Says (w : World) (K R : Int) (s : Value) (A B : Int) : Prop where
  area : ∀ v, Below w.heap.size w v → Calls Try.prog 16 #[shapeV K R s] v fun e w' => e = .returned (.int .i64 A) ∧ Below v.heap.size v w'
  round : ∀ v, Below w.heap.size w v → Calls Try.prog 17 #[shapeV K R s] v fun e w' => e = .returned (.int .i64 B) ∧ Below v.heap.size v w'
  of : ∀ d v, I64 d → Below w.heap.size w v → Calls Try.prog 9 #[bodyV 0 0 0 0 0 0 0 d K R s] v fun e w' => e = .returned (massOf d A B) ∧ Below v.heap.size v w'
theorem Says.on {w v : World} {K R : Int} {s : Value} {A B : Int} (h : Says w K R s A B) (k : Below w.heap.size w v) : Says v K R s A B where
  area u hu := h.area u (k.trans (hu.mono k.size))
  round u hu := h.round u (k.trans (hu.mono k.size))
  of d u hd hu := h.of d u hd (k.trans (hu.mono k.size))

theorem says_disc (R : Int) (w : World) (hR : I64 R) : Says w 1 R (.slice none 0 0) (areaC R) (roundC R) where
  area v _ := mass_says.disc R v hR
  round v _ := mass_says.discRound R v hR
  of d v hd _ := mass_says.ofDisc d R v hd hR
theorem says_poly {b off n cap : Nat} {f : Cs} {w : World} (h0 : 0 < n) (h8 : n ≤ 8) (hP : Pts w b off n f) (hi : Cin f n) : Says w 2 0 (.slice (some ⟨b, off, none⟩) n cap) (sumT areaT f n n) (sumT roundT f n n) where
  area v k := mass_says.area b off n cap f v h0 h8 (pts_below h0 hP k) hi
  round v k := mass_says.round b off n cap f v h0 h8 (pts_below h0 hP k) hi
  of d v hd k := mass_says.of d b off n cap f v hd h0 h8 (pts_below h0 hP k) hi

theorem circle_area_bd {R : Int} (h0 : 268435456 ≤ R) (h1 : R ≤ 17179869184) : areaC R ≤ 1099511627776 := by
  have c := circle_mono (R := R) (S := 17179869184) (by omega) h1 (by unfold Rg; omega)
  have e : areaC 17179869184 ≤ 1099511627776 := by decide +kernel
  omega
theorem grid_sum {x y : Nat → Int} {k : Int} {n : Nat} (g : Grid x y k n) (r : Round x y n) :
    0 ≤ sumT areaT (grid x y k) n n ∧ sumT areaT (grid x y k) n n ≤ 1099511627776 ∧ 0 ≤ sumT roundT (grid x y k) n n := by
  have a := sum_plain (T := areaT) (f := grid x y k) (n := n) (B := 100000000000) (by omega) n g.n1 fun i hi => area_bd g r hi
  have b := sum_plain (T := roundT) (f := grid x y k) (n := n) (B := 1000000000000000000) (by omega) n g.n1 fun i hi => round_bd g r hi
  have h8 := g.n1
  rw [a.1, b.1]
  refine ⟨a.2.1, ?_, b.2.1⟩
  have := a.2.2
  omega
/-- the seed's shape, with its area and round -/
theorem seed_says (K N S T : Int) (w : World) : Calls Try.prog 8 #[seedV K N S T] w fun e w' => ∃ K R ao n cap A B, e = .returned (shapeV K R (.slice ao n cap)) ∧ Says w' K R (.slice ao n cap) A B ∧ I64 A ∧ I64 B ∧ 0 ≤ A ∧ A ≤ 1099511627776 ∧ 0 ≤ B ∧ Made w.heap.size w w' := by
  refine (seed_full K N S T w).mono ?_
  rintro e w' ⟨⟨R, r0, r1, rfl⟩ | ⟨g, c, n, x, y, k, gr, rd, rfl, hg, hrow⟩, hm⟩
  · have hR : I64 R := by unfold I64; omega
    have nn := circle_nn (R := R) (by unfold Rg; omega)
    exact ⟨1, R, none, 0, 0, _, _, rfl, says_disc R w' hR, i64_mul _ _, i64_div _ _, nn.1, circle_area_bd r0 r1, nn.2, hm⟩
  · have b := grid_sum gr rd
    exact ⟨2, 0, some ⟨g, 0, none⟩, n, c, _, _, rfl, says_poly (by have := gr.n0; omega) gr.n1 hrow.pts (grid_i64 gr), sumT_i64 _ _ _ _, sumT_i64 _ _ _ _, b.1, b.2.1, b.2.2, hm⟩
end Go.Proofs.Ytahbnbaldoblaaa.Fx
