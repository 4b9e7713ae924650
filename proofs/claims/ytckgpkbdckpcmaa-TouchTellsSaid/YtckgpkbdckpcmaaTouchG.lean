/- The statements' own mixed: a polygon and a circle. -/
import Derived.Test.YtckgpkbdckpcmaaTouchD
import Derived.Test.YtckgpkbdckpcmaaTouchE
import Derived.Test.YtckgpkbdckpcmaaTouchF
namespace Go.Proofs.Ytckgpkbdckpcmaa.Fx
open Go.ChangeShapes Go.WideShapes Go.ChangeAt Go.RowKit
set_option linter.unusedVariables false

theorem lmixed_is (X Y A : Int) (b off n cap : Nat) (f : Cs) (cx cy R A2 : Int) (P : Cs) (w : World) (iX : I64 X) (iY : I64 Y) (iA : I64 A) (hn3 : 3 ≤ n) (h8 : n ≤ 8) (hp : Pts w b off n f) (hi : Cin f n) (hP : placeF f (cs (stepF A)) (sn (stepF A)) X Y = P) (icx : I64 cx) (icy : I64 cy) (iR : I64 R) (i : Nat) (ei : sideF P n (fun _ => (cx, cy)) 1 = i) :
    Calls Try.prog 34 #[bodyV 0 X Y 0 0 A 0 0 2 0 (.slice (some ⟨b, off, none⟩) n cap), bodyV 0 cx cy 0 0 A2 0 0 1 R (.slice none 0 0)] w (TouchR (mixedI P n (cx, cy) R i) w) := by
  by_cases h1 : R ≤ gapF P n (fun _ => (cx, cy)) 1 i
  · exact lmixed_far X Y A b off n cap f cx cy R A2 P w iX iY iA hn3 h8 hp hi hP icx icy iR i ei h1
  by_cases h2 : gapF P n (fun _ => (cx, cy)) 1 i ≤ 0
  · exact lmixed_flat X Y A b off n cap f cx cy R A2 P w iX iY iA hn3 h8 hp hi hP icx icy iR i ei h1 h2
  by_cases h3 : dotV (subV (cx, cy) (P i)) (subV (P ((i + 1) % n)) (P i)) ≤ 0
  · by_cases h5 : R ≤ lenV (subV (cx, cy) (P i))
    · exact lmixed_afar X Y A b off n cap f cx cy R A2 P w iX iY iA hn3 h8 hp hi hP icx icy iR i ei h1 h2 h3 h5
    by_cases h6 : lenV (subV (cx, cy) (P i)) = 0
    · exact lmixed_azero X Y A b off n cap f cx cy R A2 P w iX iY iA hn3 h8 hp hi hP icx icy iR i ei h1 h2 h3 h5 h6
    · exact lmixed_aunit X Y A b off n cap f cx cy R A2 P w iX iY iA hn3 h8 hp hi hP icx icy iR i ei h1 h2 h3 h5 h6
  by_cases h4 : dotV (subV (cx, cy) (P ((i + 1) % n))) (negV (subV (P ((i + 1) % n)) (P i))) ≤ 0
  · by_cases h5 : R ≤ lenV (subV (cx, cy) (P ((i + 1) % n)))
    · exact lmixed_bfar X Y A b off n cap f cx cy R A2 P w iX iY iA hn3 h8 hp hi hP icx icy iR i ei h1 h2 h3 h4 h5
    by_cases h6 : lenV (subV (cx, cy) (P ((i + 1) % n))) = 0
    · exact lmixed_bzero X Y A b off n cap f cx cy R A2 P w iX iY iA hn3 h8 hp hi hP icx icy iR i ei h1 h2 h3 h4 h5 h6
    · exact lmixed_bunit X Y A b off n cap f cx cy R A2 P w iX iY iA hn3 h8 hp hi hP icx icy iR i ei h1 h2 h3 h4 h5 h6
  · exact lmixed_in X Y A b off n cap f cx cy R A2 P w iX iY iA hn3 h8 hp hi hP icx icy iR i ei h1 h2 h3 h4
end Go.Proofs.Ytckgpkbdckpcmaa.Fx
