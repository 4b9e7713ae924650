/- The statements' own polys: two polygons. -/
import Derived.Test.YtckgpkbdckpcmaaTouchK
import Derived.Test.YtckgpkbdckpcmaaTouchL
import Derived.Test.YtckgpkbdckpcmaaTouchM
import Derived.Test.YtckgpkbdckpcmaaTouchN
namespace Go.Proofs.Ytckgpkbdckpcmaa.Fx
open Go.ChangeShapes Go.WideShapes Go.ChangeAt Go.RowKit
set_option linter.unusedVariables false

set_option maxHeartbeats 1000000 in
theorem lpolys_is (X Y A : Int) (b off n cap : Nat) (f : Cs) (X2 Y2 A2 : Int) (b2 off2 m cap2 : Nat) (f2 : Cs) (P Q : Cs) (w : World) (iX : I64 X) (iY : I64 Y) (iA : I64 A) (hn3 : 3 ≤ n) (h8 : n ≤ 8) (hp : Pts w b off n f) (hi : Cin f n) (hP : placeF f (cs (stepF A)) (sn (stepF A)) X Y = P) (iX2 : I64 X2) (iY2 : I64 Y2) (iA2 : I64 A2) (hm3 : 3 ≤ m) (hm8 : m ≤ 8) (hq : Pts w b2 off2 m f2) (hi2 : Cin f2 m) (hQ : placeF f2 (cs (stepF A2)) (sn (stepF A2)) X2 Y2 = Q) (i k : Nat) (ei : sideF P n Q m = i) (ek : sideF Q m P n = k) :
    Calls Try.prog 35 #[bodyV 0 X Y 0 0 A 0 0 2 0 (.slice (some ⟨b, off, none⟩) n cap), bodyV 0 X2 Y2 0 0 A2 0 0 2 0 (.slice (some ⟨b2, off2, none⟩) m cap2)] w (TouchR (polysF P n Q m) w) := by
  by_cases h1 : 0 ≤ gapF P n Q m i
  · have e : polysF P n Q m = none := by unfold polysF; rw [ei, ek, if_pos (.inl h1)]
    rw [e]
    exact lpolys_far0 X Y A b off n cap f X2 Y2 A2 b2 off2 m cap2 f2 P Q w iX iY iA hn3 h8 hp hi hP iX2 iY2 iA2 hm3 hm8 hq hi2 hQ i k ei ek h1
  by_cases h2 : 0 ≤ gapF Q m P n k
  · have e : polysF P n Q m = none := by unfold polysF; rw [ei, ek, if_pos (.inr h2)]
    rw [e]
    exact lpolys_far1 X Y A b off n cap f X2 Y2 A2 b2 off2 m cap2 f2 P Q w iX iY iA hn3 h8 hp hi hP iX2 iY2 iA2 hm3 hm8 hq hi2 hQ i k ei ek h1 h2
  by_cases h3 : gapF P n Q m i < gapF Q m P n k
  · by_cases hc : dotV (unitP (subV (Q ((k + 1) % m)) (Q k))) (subV (P (incF (normF Q m k) P n)) (Q k)) < 0 ∧ dotV (unitP (subV (Q ((k + 1) % m)) (Q k))) (subV (P ((incF (normF Q m k) P n + 1) % n)) (Q k)) < 0
    · have e : polysF P n Q m = none := by
        unfold polysF; rw [ei, ek, if_neg (by omega), if_pos h3]
        unfold clipF clipV cutF
        rw [if_pos hc]; rfl
      rw [e]
      exact lpolys_q_cut1 X Y A b off n cap f X2 Y2 A2 b2 off2 m cap2 f2 P Q w iX iY iA hn3 h8 hp hi hP iX2 iY2 iA2 hm3 hm8 hq hi2 hQ i k ei ek h1 h2 h3 _ _ _ _ _ _ _ rfl rfl rfl rfl rfl rfl rfl hc
    by_cases hd : dotV (negV (unitP (subV (Q ((k + 1) % m)) (Q k)))) (subV (moveV (P (incF (normF Q m k) P n)) (P ((incF (normF Q m k) P n + 1) % n)) (dotV (unitP (subV (Q ((k + 1) % m)) (Q k))) (subV (P (incF (normF Q m k) P n)) (Q k))) (dotV (unitP (subV (Q ((k + 1) % m)) (Q k))) (subV (P ((incF (normF Q m k) P n + 1) % n)) (Q k)))) (Q ((k + 1) % m))) < 0 ∧ dotV (negV (unitP (subV (Q ((k + 1) % m)) (Q k)))) (subV (moveV (P ((incF (normF Q m k) P n + 1) % n)) (P (incF (normF Q m k) P n)) (dotV (unitP (subV (Q ((k + 1) % m)) (Q k))) (subV (P ((incF (normF Q m k) P n + 1) % n)) (Q k))) (dotV (unitP (subV (Q ((k + 1) % m)) (Q k))) (subV (P (incF (normF Q m k) P n)) (Q k)))) (Q ((k + 1) % m))) < 0
    · have e : polysF P n Q m = none := by
        unfold polysF; rw [ei, ek, if_neg (by omega), if_pos h3]
        unfold clipF clipV cutF
        rw [if_neg hc]; simp only []; rw [if_pos hd]; rfl
      rw [e]
      exact lpolys_q_cut2 X Y A b off n cap f X2 Y2 A2 b2 off2 m cap2 f2 P Q w iX iY iA hn3 h8 hp hi hP iX2 iY2 iA2 hm3 hm8 hq hi2 hQ i k ei ek h1 h2 h3 _ _ _ _ _ _ _ rfl rfl rfl rfl rfl rfl rfl hc _ _ rfl rfl hd
    · have e : polysF P n Q m = (pointsF (normF Q m k) (Q k) (moveV (moveV (P (incF (normF Q m k) P n)) (P ((incF (normF Q m k) P n + 1) % n)) (dotV (unitP (subV (Q ((k + 1) % m)) (Q k))) (subV (P (incF (normF Q m k) P n)) (Q k))) (dotV (unitP (subV (Q ((k + 1) % m)) (Q k))) (subV (P ((incF (normF Q m k) P n + 1) % n)) (Q k)))) (moveV (P ((incF (normF Q m k) P n + 1) % n)) (P (incF (normF Q m k) P n)) (dotV (unitP (subV (Q ((k + 1) % m)) (Q k))) (subV (P ((incF (normF Q m k) P n + 1) % n)) (Q k))) (dotV (unitP (subV (Q ((k + 1) % m)) (Q k))) (subV (P (incF (normF Q m k) P n)) (Q k)))) (dotV (negV (unitP (subV (Q ((k + 1) % m)) (Q k)))) (subV (moveV (P (incF (normF Q m k) P n)) (P ((incF (normF Q m k) P n + 1) % n)) (dotV (unitP (subV (Q ((k + 1) % m)) (Q k))) (subV (P (incF (normF Q m k) P n)) (Q k))) (dotV (unitP (subV (Q ((k + 1) % m)) (Q k))) (subV (P ((incF (normF Q m k) P n + 1) % n)) (Q k)))) (Q ((k + 1) % m)))) (dotV (negV (unitP (subV (Q ((k + 1) % m)) (Q k)))) (subV (moveV (P ((incF (normF Q m k) P n + 1) % n)) (P (incF (normF Q m k) P n)) (dotV (unitP (subV (Q ((k + 1) % m)) (Q k))) (subV (P ((incF (normF Q m k) P n + 1) % n)) (Q k))) (dotV (unitP (subV (Q ((k + 1) % m)) (Q k))) (subV (P (incF (normF Q m k) P n)) (Q k)))) (Q ((k + 1) % m))))) (moveV (moveV (P ((incF (normF Q m k) P n + 1) % n)) (P (incF (normF Q m k) P n)) (dotV (unitP (subV (Q ((k + 1) % m)) (Q k))) (subV (P ((incF (normF Q m k) P n + 1) % n)) (Q k))) (dotV (unitP (subV (Q ((k + 1) % m)) (Q k))) (subV (P (incF (normF Q m k) P n)) (Q k)))) (moveV (P (incF (normF Q m k) P n)) (P ((incF (normF Q m k) P n + 1) % n)) (dotV (unitP (subV (Q ((k + 1) % m)) (Q k))) (subV (P (incF (normF Q m k) P n)) (Q k))) (dotV (unitP (subV (Q ((k + 1) % m)) (Q k))) (subV (P ((incF (normF Q m k) P n + 1) % n)) (Q k)))) (dotV (negV (unitP (subV (Q ((k + 1) % m)) (Q k)))) (subV (moveV (P ((incF (normF Q m k) P n + 1) % n)) (P (incF (normF Q m k) P n)) (dotV (unitP (subV (Q ((k + 1) % m)) (Q k))) (subV (P ((incF (normF Q m k) P n + 1) % n)) (Q k))) (dotV (unitP (subV (Q ((k + 1) % m)) (Q k))) (subV (P (incF (normF Q m k) P n)) (Q k)))) (Q ((k + 1) % m)))) (dotV (negV (unitP (subV (Q ((k + 1) % m)) (Q k)))) (subV (moveV (P (incF (normF Q m k) P n)) (P ((incF (normF Q m k) P n + 1) % n)) (dotV (unitP (subV (Q ((k + 1) % m)) (Q k))) (subV (P (incF (normF Q m k) P n)) (Q k))) (dotV (unitP (subV (Q ((k + 1) % m)) (Q k))) (subV (P ((incF (normF Q m k) P n + 1) % n)) (Q k)))) (Q ((k + 1) % m))))) (64 + 2 * (k : Int))).map negT := by
        unfold polysF; rw [ei, ek, if_neg (by omega), if_pos h3]
        unfold clipF clipV cutF
        rw [if_neg hc]; simp only []; rw [if_neg hd]
      rw [e]
      exact lpolys_q_end X Y A b off n cap f X2 Y2 A2 b2 off2 m cap2 f2 P Q w iX iY iA hn3 h8 hp hi hP iX2 iY2 iA2 hm3 hm8 hq hi2 hQ i k ei ek h1 h2 h3 _ _ _ _ _ _ _ rfl rfl rfl rfl rfl rfl rfl hc _ _ rfl rfl hd _ _ rfl rfl
  · by_cases hc : dotV (unitP (subV (P ((i + 1) % n)) (P i))) (subV (Q (incF (normF P n i) Q m)) (P i)) < 0 ∧ dotV (unitP (subV (P ((i + 1) % n)) (P i))) (subV (Q ((incF (normF P n i) Q m + 1) % m)) (P i)) < 0
    · have e : polysF P n Q m = none := by
        unfold polysF; rw [ei, ek, if_neg (by omega), if_neg h3]
        unfold clipF clipV cutF
        rw [if_pos hc]
      rw [e]
      exact lpolys_p_cut1 X Y A b off n cap f X2 Y2 A2 b2 off2 m cap2 f2 P Q w iX iY iA hn3 h8 hp hi hP iX2 iY2 iA2 hm3 hm8 hq hi2 hQ i k ei ek h1 h2 h3 _ _ _ _ _ _ _ rfl rfl rfl rfl rfl rfl rfl hc
    by_cases hd : dotV (negV (unitP (subV (P ((i + 1) % n)) (P i)))) (subV (moveV (Q (incF (normF P n i) Q m)) (Q ((incF (normF P n i) Q m + 1) % m)) (dotV (unitP (subV (P ((i + 1) % n)) (P i))) (subV (Q (incF (normF P n i) Q m)) (P i))) (dotV (unitP (subV (P ((i + 1) % n)) (P i))) (subV (Q ((incF (normF P n i) Q m + 1) % m)) (P i)))) (P ((i + 1) % n))) < 0 ∧ dotV (negV (unitP (subV (P ((i + 1) % n)) (P i)))) (subV (moveV (Q ((incF (normF P n i) Q m + 1) % m)) (Q (incF (normF P n i) Q m)) (dotV (unitP (subV (P ((i + 1) % n)) (P i))) (subV (Q ((incF (normF P n i) Q m + 1) % m)) (P i))) (dotV (unitP (subV (P ((i + 1) % n)) (P i))) (subV (Q (incF (normF P n i) Q m)) (P i)))) (P ((i + 1) % n))) < 0
    · have e : polysF P n Q m = none := by
        unfold polysF; rw [ei, ek, if_neg (by omega), if_neg h3]
        unfold clipF clipV cutF
        rw [if_neg hc]; simp only []; rw [if_pos hd]
      rw [e]
      exact lpolys_p_cut2 X Y A b off n cap f X2 Y2 A2 b2 off2 m cap2 f2 P Q w iX iY iA hn3 h8 hp hi hP iX2 iY2 iA2 hm3 hm8 hq hi2 hQ i k ei ek h1 h2 h3 _ _ _ _ _ _ _ rfl rfl rfl rfl rfl rfl rfl hc _ _ rfl rfl hd
    · have e : polysF P n Q m = pointsF (normF P n i) (P i) (moveV (moveV (Q (incF (normF P n i) Q m)) (Q ((incF (normF P n i) Q m + 1) % m)) (dotV (unitP (subV (P ((i + 1) % n)) (P i))) (subV (Q (incF (normF P n i) Q m)) (P i))) (dotV (unitP (subV (P ((i + 1) % n)) (P i))) (subV (Q ((incF (normF P n i) Q m + 1) % m)) (P i)))) (moveV (Q ((incF (normF P n i) Q m + 1) % m)) (Q (incF (normF P n i) Q m)) (dotV (unitP (subV (P ((i + 1) % n)) (P i))) (subV (Q ((incF (normF P n i) Q m + 1) % m)) (P i))) (dotV (unitP (subV (P ((i + 1) % n)) (P i))) (subV (Q (incF (normF P n i) Q m)) (P i)))) (dotV (negV (unitP (subV (P ((i + 1) % n)) (P i)))) (subV (moveV (Q (incF (normF P n i) Q m)) (Q ((incF (normF P n i) Q m + 1) % m)) (dotV (unitP (subV (P ((i + 1) % n)) (P i))) (subV (Q (incF (normF P n i) Q m)) (P i))) (dotV (unitP (subV (P ((i + 1) % n)) (P i))) (subV (Q ((incF (normF P n i) Q m + 1) % m)) (P i)))) (P ((i + 1) % n)))) (dotV (negV (unitP (subV (P ((i + 1) % n)) (P i)))) (subV (moveV (Q ((incF (normF P n i) Q m + 1) % m)) (Q (incF (normF P n i) Q m)) (dotV (unitP (subV (P ((i + 1) % n)) (P i))) (subV (Q ((incF (normF P n i) Q m + 1) % m)) (P i))) (dotV (unitP (subV (P ((i + 1) % n)) (P i))) (subV (Q (incF (normF P n i) Q m)) (P i)))) (P ((i + 1) % n))))) (moveV (moveV (Q ((incF (normF P n i) Q m + 1) % m)) (Q (incF (normF P n i) Q m)) (dotV (unitP (subV (P ((i + 1) % n)) (P i))) (subV (Q ((incF (normF P n i) Q m + 1) % m)) (P i))) (dotV (unitP (subV (P ((i + 1) % n)) (P i))) (subV (Q (incF (normF P n i) Q m)) (P i)))) (moveV (Q (incF (normF P n i) Q m)) (Q ((incF (normF P n i) Q m + 1) % m)) (dotV (unitP (subV (P ((i + 1) % n)) (P i))) (subV (Q (incF (normF P n i) Q m)) (P i))) (dotV (unitP (subV (P ((i + 1) % n)) (P i))) (subV (Q ((incF (normF P n i) Q m + 1) % m)) (P i)))) (dotV (negV (unitP (subV (P ((i + 1) % n)) (P i)))) (subV (moveV (Q ((incF (normF P n i) Q m + 1) % m)) (Q (incF (normF P n i) Q m)) (dotV (unitP (subV (P ((i + 1) % n)) (P i))) (subV (Q ((incF (normF P n i) Q m + 1) % m)) (P i))) (dotV (unitP (subV (P ((i + 1) % n)) (P i))) (subV (Q (incF (normF P n i) Q m)) (P i)))) (P ((i + 1) % n)))) (dotV (negV (unitP (subV (P ((i + 1) % n)) (P i)))) (subV (moveV (Q (incF (normF P n i) Q m)) (Q ((incF (normF P n i) Q m + 1) % m)) (dotV (unitP (subV (P ((i + 1) % n)) (P i))) (subV (Q (incF (normF P n i) Q m)) (P i))) (dotV (unitP (subV (P ((i + 1) % n)) (P i))) (subV (Q ((incF (normF P n i) Q m + 1) % m)) (P i)))) (P ((i + 1) % n))))) (32 + 2 * (i : Int)) := by
        unfold polysF; rw [ei, ek, if_neg (by omega), if_neg h3]
        unfold clipF clipV cutF
        rw [if_neg hc]; simp only []; rw [if_neg hd]
      rw [e]
      exact lpolys_p_end X Y A b off n cap f X2 Y2 A2 b2 off2 m cap2 f2 P Q w iX iY iA hn3 h8 hp hi hP iX2 iY2 iA2 hm3 hm8 hq hi2 hQ i k ei ek h1 h2 h3 _ _ _ _ _ _ _ rfl rfl rfl rfl rfl rfl rfl hc _ _ rfl rfl hd _ _ rfl rfl
end Go.Proofs.Ytckgpkbdckpcmaa.Fx
