/- Plain words for touching bodies, by the document. No Go in sight. -/
import Derived.Test.YtmfkcdinfahjlaaPlain
namespace Go.Proofs.Ytmfkcdinfahjlaa.Fx
set_option linter.unusedVariables false

def subV (a b : Int × Int) : Int × Int := (subF a.1 b.1, subF a.2 b.2)
def addV (a b : Int × Int) : Int × Int := (addF a.1 b.1, addF a.2 b.2)
def negV (a : Int × Int) : Int × Int := (negF a.1, negF a.2)
def scaV (a : Int × Int) (k : Int) : Int × Int := (mulF a.1 k, mulF a.2 k)
def lenV (a : Int × Int) : Int := lenF a.1 a.2
def unitP (a : Int × Int) : Int × Int := uF a.1 a.2
/-- the least of the first m + 1 -/
def leastF (h : Nat → Int) : Nat → Int
  | 0 => h 0
  | m + 1 => min (leastF h m) (h (m + 1))
/-- where the greatest of the first m + 1 stands first -/
def firstF (h : Nat → Int) : Nat → Nat
  | 0 => 0
  | m + 1 => if h (firstF h m) < h (m + 1) then m + 1 else firstF h m
/-- where the least of the first m + 1 stands first -/
def botF (h : Nat → Int) : Nat → Nat
  | 0 => 0
  | m + 1 => if h (m + 1) < h (botF h m) then m + 1 else botF h m
theorem leastF_le (h : Nat → Int) : ∀ m i, i ≤ m → leastF h m ≤ h i
  | 0, i, hi => by obtain rfl : i = 0 := by omega
                   exact Int.le_refl _
  | m + 1, i, hi => by
    unfold leastF
    by_cases e : i = m + 1
    · subst e; omega
    · have := leastF_le h m i (by omega); omega
theorem leastF_at (h : Nat → Int) : ∀ m, ∃ i, i ≤ m ∧ leastF h m = h i
  | 0 => ⟨0, by omega, rfl⟩
  | m + 1 => by
    obtain ⟨i, hi, e⟩ := leastF_at h m
    unfold leastF
    by_cases g : leastF h m ≤ h (m + 1)
    · exact ⟨i, by omega, by omega⟩
    · exact ⟨m + 1, by omega, by omega⟩
theorem leastF_is {h : Nat → Int} {m : Nat} {a : Int} (h1 : ∀ i, i ≤ m → a ≤ h i) (h2 : ∃ i, i ≤ m ∧ h i = a) : leastF h m = a := by
  obtain ⟨i, hi, e⟩ := h2
  obtain ⟨k, hk, ek⟩ := leastF_at h m
  have := leastF_le h m i hi
  have := h1 k hk
  omega
theorem leastF_congr {h k : Nat → Int} (m : Nat) (e : ∀ i, i ≤ m → h i = k i) : leastF h m = leastF k m := by
  obtain ⟨i, hi, ei⟩ := leastF_at k m
  exact leastF_is (fun j hj => by rw [e j hj]; exact leastF_le k m j hj) ⟨i, hi, by rw [e i hi, ei]⟩
theorem firstF_le (h : Nat → Int) : ∀ m, firstF h m ≤ m
  | 0 => Nat.le_refl _
  | m + 1 => by
    have := firstF_le h m
    unfold firstF; split <;> omega
theorem firstF_top (h : Nat → Int) : ∀ m i, i ≤ m → h i ≤ h (firstF h m)
  | 0, i, hi => by obtain rfl : i = 0 := by omega
                   exact Int.le_refl _
  | m + 1, i, hi => by
    have ih := firstF_top h m
    unfold firstF
    by_cases e : i = m + 1
    · subst e; split <;> omega
    · have := ih i (by omega); split <;> omega
theorem firstF_first (h : Nat → Int) : ∀ m i, i < firstF h m → h i < h (firstF h m)
  | 0, i, hi => by unfold firstF at hi; omega
  | m + 1, i, hi => by
    have ih := firstF_first h m
    have it := firstF_top h m
    unfold firstF at hi ⊢
    split
    · rename_i g
      rw [if_pos g] at hi
      have := it i (by omega); omega
    · rename_i g
      rw [if_neg g] at hi
      exact ih i hi
theorem firstF_is {h : Nat → Int} {m k : Nat} (hk : k ≤ m) (h1 : ∀ i, i ≤ m → h i ≤ h k) (h2 : ∀ i, i < k → h i < h k) : firstF h m = k := by
  have a := firstF_le h m
  rcases Nat.lt_trichotomy (firstF h m) k with g | g | g
  · have := h2 _ g; have := firstF_top h m k hk; omega
  · exact g
  · have := firstF_first h m k g; have := h1 _ a; omega
theorem firstF_congr {h k : Nat → Int} (m : Nat) (e : ∀ i, i ≤ m → h i = k i) : firstF h m = firstF k m := by
  have a := firstF_le k m
  refine firstF_is a (fun i hi => ?_) (fun i hi => ?_)
  · rw [e i hi, e _ a]; exact firstF_top k m i hi
  · rw [e i (by omega), e _ a]; exact firstF_first k m i hi
theorem botF_le (h : Nat → Int) : ∀ m, botF h m ≤ m
  | 0 => Nat.le_refl _
  | m + 1 => by
    have := botF_le h m
    unfold botF; split <;> omega
theorem botF_low (h : Nat → Int) : ∀ m i, i ≤ m → h (botF h m) ≤ h i
  | 0, i, hi => by obtain rfl : i = 0 := by omega
                   exact Int.le_refl _
  | m + 1, i, hi => by
    have ih := botF_low h m
    unfold botF
    by_cases e : i = m + 1
    · subst e; split <;> omega
    · have := ih i (by omega); split <;> omega
theorem botF_congr {h k : Nat → Int} : ∀ m : Nat, (∀ i, i ≤ m → h i = k i) → botF h m = botF k m
  | 0, _ => rfl
  | m + 1, e => by
    have ih := botF_congr m fun i hi => e i (by omega)
    unfold botF
    rw [ih, e (m + 1) (by omega), e (botF k m) (by have := botF_le k m; omega)]

/-- a point, a touch -/
structure Pnt where
  x : Int
  y : Int
  d : Int
  k : Int
  deriving DecidableEq
structure Tch where
  nx : Int
  ny : Int
  pts : List Pnt
  deriving DecidableEq
def noTch : Tch := ⟨0, 0, []⟩
def negT (t : Tch) : Tch := ⟨negF t.nx, negF t.ny, t.pts⟩
/-- a touch at one point -/
def oneT (n at_ : Int × Int) (d k : Int) : Tch := ⟨n.1, n.2, [⟨at_.1, at_.2, d, k⟩]⟩

/-- two circles -/
def roundsN (a b : Int × Int) : Int × Int := if 0 < lenV (subV b a) then unitP (subV b a) else (4294967296, 0)
def roundsF (a : Int × Int) (ra : Int) (b : Int × Int) (rb : Int) : Option Tch :=
  if addF ra rb ≤ lenV (subV b a) then none
  else some (oneT (roundsN a b) (addV a (scaV (roundsN a b) (subF ra (divF (subF (addF ra rb) (lenV (subV b a))) 8589934592)))) (subF (addF ra rb) (lenV (subV b a))) 0)
/-- how far the m corners of Q lie from side i of P, at least -/
def gapF (P : Cs) (n : Nat) (Q : Cs) (m : Nat) (i : Nat) : Int := leastF (fun j => dotV (normF P n i) (subV (Q j) (P i))) (m - 1)
def sideF (P : Cs) (n : Nat) (Q : Cs) (m : Nat) : Nat := firstF (gapF P n Q m) (n - 1)
/-- a corner and a circle -/
def cornerF (N v u : Int × Int) (r key : Int) : Option Tch :=
  if r ≤ lenV u then none else some (oneT (if lenV u = 0 then N else unitP u) v (subF r (lenV u)) key)
/-- a polygon and a circle, at its side i -/
def mixedI (P : Cs) (n : Nat) (c : Int × Int) (r : Int) (i : Nat) : Option Tch :=
  if r ≤ gapF P n (fun _ => c) 1 i then none
  else if gapF P n (fun _ => c) 1 i ≤ 0 then some (oneT (normF P n i) (subV c (scaV (normF P n i) r)) (subF r (gapF P n (fun _ => c) 1 i)) (16 + i))
  else if dotV (subV c (P i)) (subV (P ((i + 1) % n)) (P i)) ≤ 0 then cornerF (normF P n i) (P i) (subV c (P i)) r (2 * i)
  else if dotV (subV c (P ((i + 1) % n))) (negV (subV (P ((i + 1) % n)) (P i))) ≤ 0 then cornerF (normF P n i) (P ((i + 1) % n)) (subV c (P ((i + 1) % n))) r (2 * i + 1)
  else some (oneT (normF P n i) (subV c (scaV (normF P n i) r)) (subF r (gapF P n (fun _ => c) 1 i)) (16 + i))
def mixedF (P : Cs) (n : Nat) (c : Int × Int) (r : Int) : Option Tch := mixedI P n c r (sideF P n (fun _ => c) 1)
/-- an end, moved -/
def moveV (p q : Int × Int) (x y : Int) : Int × Int := if x < 0 then addV p (scaV (subV q p) (divF x (subF x y))) else p
def cutF (p q v t : Int × Int) : Option ((Int × Int) × (Int × Int)) :=
  if dotV t (subV p v) < 0 ∧ dotV t (subV q v) < 0 then none
  else some (moveV p q (dotV t (subV p v)) (dotV t (subV q v)), moveV q p (dotV t (subV q v)) (dotV t (subV p v)))
def endsF (N v : Int × Int) (x : Int × Int) (key : Int) : List Pnt := if 0 < -dotV N (subV x v) then [⟨x.1, x.2, -dotV N (subV x v), key⟩] else []
def pointsF (N v x y : Int × Int) (key : Int) : Option Tch :=
  if endsF N v x key ++ endsF N v y (key + 1) = [] then none else some ⟨N.1, N.2, endsF N v x key ++ endsF N v y (key + 1)⟩
def incF (N : Int × Int) (Q : Cs) (m : Nat) : Nat := botF (fun j => dotV N (normF Q m j)) (m - 1)
/-- the ends of the side q, clipped along the side from v to w, whose normal is N -/
def clipV (N v w x y : Int × Int) (key : Int) : Option Tch :=
  match cutF x y v (unitP (subV w v)) with
  | none => none
  | some (p, q) => match cutF p q w (negV (unitP (subV w v))) with
    | none => none
    | some (p, q) => pointsF N v p q key
def clipF (P : Cs) (n : Nat) (Q : Cs) (m i : Nat) (key : Int) : Option Tch :=
  clipV (normF P n i) (P i) (P ((i + 1) % n)) (Q (incF (normF P n i) Q m)) (Q ((incF (normF P n i) Q m + 1) % m)) key
/-- two polygons -/
def polysF (P : Cs) (n : Nat) (Q : Cs) (m : Nat) : Option Tch :=
  if 0 ≤ gapF P n Q m (sideF P n Q m) ∨ 0 ≤ gapF Q m P n (sideF Q m P n) then none
  else if gapF P n Q m (sideF P n Q m) < gapF Q m P n (sideF Q m P n) then (clipF Q m P n (sideF Q m P n) (64 + 2 * (sideF Q m P n : Int))).map negT
  else clipF P n Q m (sideF P n Q m) (32 + 2 * (sideF P n Q m : Int))

/-- a body in place -/
inductive Bdy where
  | disc (c : Int × Int) (r : Int)
  | poly (P : Cs) (n : Nat)
def wantF : Bdy → Bdy → Option Tch
  | .disc a r, .disc b s => roundsF a r b s
  | .poly P n, .disc c r => mixedF P n c r
  | .disc c r, .poly P n => (mixedF P n c r).map negT
  | .poly P n, .poly Q m => polysF P n Q m
end Go.Proofs.Ytmfkcdinfahjlaa.Fx
