/- Areas and rounds of a grid whose first corner is another one, and of one twice as great. No Go in sight. -/
import Derived.Test.YtahbnbaldoblaaaPlain
import Derived.Test.YtahbnbaldoblaaaMix
namespace Go.Proofs.Ytahbnbaldoblaaa.Fx
set_option linter.unusedVariables false

theorem round_turn {x y : Nat → Int} {n : Nat} (n0 : 3 ≤ n) (n1 : n ≤ 8) (r : Round x y n) (t : Nat) : Round (fun i => x ((i + t) % n)) (fun i => y ((i + t) % n)) n := fun i hi => by
  have e : ((i + 1) % n + t) % n = ((i + t) % n + 1) % n := by rw [Nat.mod_add_mod, Nat.mod_add_mod, Nat.add_right_comm]
  have := r ((i + t) % n) (Nat.mod_lt _ (by omega))
  show 0 ≤ x ((i + t) % n) * y (((i + 1) % n + t) % n) - y ((i + t) % n) * x (((i + 1) % n + t) % n)
  rw [e]
  exact this
theorem plain_sums {x y : Nat → Int} {k : Int} {n : Nat} (g : Grid x y k n) (r : Round x y n) :
    sumT areaT (grid x y k) n n = sumP areaT (grid x y k) n n ∧ sumT roundT (grid x y k) n n = sumP roundT (grid x y k) n n :=
  ⟨(sum_plain (T := areaT) (f := grid x y k) (n := n) (B := 100000000000) (by omega) n g.n1 fun i hi => area_bd g r hi).1,
   (sum_plain (T := roundT) (f := grid x y k) (n := n) (B := 1000000000000000000) (by omega) n g.n1 fun i hi => round_bd g r hi).1⟩
theorem turned_sums {x y : Nat → Int} {k : Int} {n : Nat} (g : Grid x y k n) (r : Round x y n) (t : Nat) :
    sumT areaT (fun i => grid x y k ((i + t) % n)) n n = sumT areaT (grid x y k) n n ∧ sumT roundT (fun i => grid x y k ((i + t) % n)) n n = sumT roundT (grid x y k) n n := by
  have a := plain_sums g r
  have b := plain_sums (grid_turn g t) (round_turn g.n0 g.n1 r t)
  have c := sum_turn (T := areaT) (f := grid x y k) g.n0 g.n1 t
  have d := sum_turn (T := roundT) (f := grid x y k) g.n0 g.n1 t
  rw [turned_eq] at c d ⊢
  exact ⟨(b.1.trans c).trans a.1.symm, (b.2.trans d).trans a.2.symm⟩
theorem twice_sums {x y : Nat → Int} {k : Int} {n : Nat} (g : Grid x y k n) (r : Round x y n) :
    sumT areaT (grid x y k) n n ≤ sumT areaT (twice (grid x y k)) n n ∧ sumT roundT (grid x y k) n n ≤ sumT roundT (twice (grid x y k)) n n :=
  ⟨sum_mono n fun i hi => area_twice g r hi, sum_mono n fun i hi => round_twice g r hi⟩
theorem grid_small {x y : Nat → Int} {k : Int} {n i : Nat} (g : Grid x y k n) (hi : i < n) : (-17448304640 ≤ (grid x y k i).1 ∧ (grid x y k i).1 ≤ 17448304640) ∧ (-17448304640 ≤ (grid x y k i).2 ∧ (grid x y k i).2 ≤ 17448304640) := by
  have k0 := g.k0
  have k1 := g.k1
  have a := prod_in (x := x i) (y := k * 4194304) (X := 65) (Y := 268435456) (g.xb i hi).1 (g.xb i hi).2 (by omega) (by omega)
  have b := prod_in (x := y i) (y := k * 4194304) (X := 65) (Y := 268435456) (g.yb i hi).1 (g.yb i hi).2 (by omega) (by omega)
  unfold grid
  simp only []
  omega
theorem scale_two {a : Int} (h : -17448304640 ≤ a ∧ a ≤ 17448304640) : mulF a 8589934592 = 2 * a :=
  mul_exact (by unfold Rg; omega) (by unfold Rg; omega) (by unfold Rg; omega) (by omega)
theorem twice_i64 {f : Cs} {n : Nat} (h : ∀ i, i < n → (-17448304640 ≤ (f i).1 ∧ (f i).1 ≤ 17448304640) ∧ (-17448304640 ≤ (f i).2 ∧ (f i).2 ≤ 17448304640)) : ∀ i, i < n → I64 (twice f i).1 ∧ I64 (twice f i).2 := fun i hi => by
  have := h i hi
  unfold twice I64
  simp only []
  omega
end Go.Proofs.Ytahbnbaldoblaaa.Fx
