/- SwP SwW Fixes TurnA TurnP TurnB Vecs -/
import Derived.Test.YtgdcphmmehedoaaGreatCb0
import Derived.Test.YtgdcphmmehedoaaGreatCb1
import Derived.Test.YtgdcphmmehedoaaGreatRows
import Derived.WalkKit
import Derived.ProofKit
import Derived.OpenShut
import Derived.Outline
import Derived.Lib.Mul64
import Derived.Laws.Bits64b
import Derived.Lib.Strings
import Derived.Lib.Slices
import Derived.Lib.Small
import Derived.Lib.Walk
import Derived.Lib.BitFns
import Derived.Deep.QuietTactic
import Derived.BigQuiet
import Derived.LoopTactic
import Derived.Great.BuildSlice
import Derived.Great.Walk
import Derived.Deep.DeepCutAuto
set_option maxRecDepth 100000
set_option maxHeartbeats 64000000
/- Items and the pairs of them that meet, plain. -/
namespace Go.Proofs.YtgdcphmmehedoaaGreat.Fx
set_option linter.unusedVariables false
structure It where
 id : Int
 lx : Int
 ly : Int
 hx : Int
 hy : Int
 st : Bool
instance : Inhabited It := ⟨⟨0, 0, 0, 0, 0, false⟩⟩
def meetP (a b : It) : Prop := (cl a.lx ≤ cl b.hx ∧ cl b.lx ≤ cl a.hx) ∧ (cl a.ly ≤ cl b.hy ∧ cl b.ly ≤ cl a.hy)
instance (a b : It) : Decidable (meetP a b) := by unfold meetP; infer_instance
def taken (a b : It) : Bool := !(a.st && b.st) && decide (meetP a b)
def beyB (a b : It) : Bool := decide (cl a.hx < cl b.lx)
def pairOf (a b : It) : Int × Int := (min a.id b.id, max a.id b.id)
def inner (a : It) : List It → List (Int × Int)
 | [] => []
 | b :: l => if beyB a b then [] else if taken a b then pairOf a b :: inner a l else inner a l
def outer : List It → List (Int × Int)
 | [] => []
 | a :: l => inner a l ++ outer l
def withF (a : It) (l : List It) : List (Int × Int) := (l.filter (taken a)).map (pairOf a)
def collect : List It → List (Int × Int)
 | [] => []
 | a :: l => withF a l ++ collect l
def ltP (p q : Int × Int) : Bool := decide (p.1 < q.1) || (decide (p.1 = q.1) && decide (p.2 < q.2))
def leP (p q : Int × Int) : Bool := !ltP q p
def sortP (l : List (Int × Int)) : List (Int × Int) := l.mergeSort leP
def pairsF (l : List It) : List (Int × Int) := sortP (collect l)
def Apart (l : List It) : Prop := l.Pairwise (fun a b => a.id ≠ b.id)
def keepP (z : Int) (p : Int × Int) : Bool := !(decide (p.1 = z) || decide (p.2 = z))
end Go.Proofs.YtgdcphmmehedoaaGreat.Fx
/- Lists in memory, whatever the elements' cells. -/
namespace Go.Proofs.YtgdcphmmehedoaaGreat.Fx
open Go.ChangeShapes Go.WideShapes Go.ChangeAt Go.RowKit
set_option linter.unusedVariables false
section
variable {α : Type} {enc : α → List Value} {k : Nat}
def flatE (enc : α → List Value) (l : List α) : List Value := l.flatMap enc
theorem flatE_len (hk : ∀ x, (enc x).length = k) : ∀ l : List α, (flatE enc l).length = l.length * k
 | [] => by simp [flatE]
 | x :: l => by
  have := flatE_len hk l
  show (enc x ++ flatE enc l).length = _
  rw [List.length_append, hk, this, List.length_cons, Nat.add_mul, Nat.one_mul, Nat.add_comm]
theorem flatE_snoc (l : List α) (x : α) : flatE enc l ++ enc x = flatE enc (l ++ [x]) := by
 unfold flatE; rw [List.flatMap_append]; simp
theorem flatE_at (hk : ∀ x, (enc x).length = k) : ∀ (l : List α) (i : Nat) (x : α), l[i]? = some x → ∀ j, j < k → (flatE enc l)[i * k + j]? = (enc x)[j]?
 | [], i, x, h, _, _ => by simp at h
 | y :: l, 0, x, h, j, hj => by
  cases h
  show (enc y ++ flatE enc l)[0 * k + j]? = _
  rw [Nat.zero_mul, Nat.zero_add, List.getElem?_append_left (by rw [hk]; exact hj)]
 | y :: l, i + 1, x, h, j, hj => by
  have h' : l[i]? = some x := by simpa using h
  show (enc y ++ flatE enc l)[(i + 1) * k + j]? = _
  rw [List.getElem?_append_right (by rw [hk, Nat.add_mul, Nat.one_mul]; omega), hk, ← flatE_at hk l i x h' j hj]
  congr 1
  rw [Nat.add_mul, Nat.one_mul]; omega
def ElT (enc : α → List Value) (w : World) (b o : Nat) (x : α) : Prop := ∀ j v, (enc x)[j]? = some v → w.cell? ⟨b, o + j, none⟩ = some v
def LsB (enc : α → List Value) (k : Nat) (w : World) (b off : Nat) (l : List α) : Prop := ∀ i x, l[i]? = some x → ElT enc w b (off + i * k) x
def LsT (enc : α → List Value) (k : Nat) (w : World) (ao : Option Addr) (l : List α) : Prop := 0 < l.length → ∃ b off, ao = some ⟨b, off, none⟩ ∧ b < w.heap.size ∧ LsB enc k w b off l
theorem LsB.below {w v : World} {b off B : Nat} {l : List α} (h : LsB enc k w b off l) (kk : Below B w v) (hb : b < B) : LsB enc k v b off l := fun i x hi j u hu => (kk.cell (p := ⟨b, off + i * k + j, none⟩) hb).trans (h i x hi j u hu)
theorem LsT.below {w v : World} {ao : Option Addr} {l : List α} (h : LsT enc k w ao l) (kk : Below w.heap.size w v) : LsT enc k v ao l := fun hl => by
 obtain ⟨b, off, e, hb, h⟩ := h hl
 exact ⟨b, off, e, Nat.lt_of_lt_of_le hb kk.size, h.below kk hb⟩
theorem LsT.kept {w v : World} {ao : Option Addr} {l : List α} (h : LsT enc k w ao l) (kk : Made w.heap.size w v) : LsT enc k v ao l := h.below kk.1
def Lies (B : Nat) (ao : Option Addr) : Prop := ∀ g off, ao = some ⟨g, off, none⟩ → g < B
theorem LsT.stays {w v : World} {ao : Option Addr} {l : List α} {B : Nat} (h : LsT enc k w ao l) (kk : Below B w v) (hB : Lies B ao) : LsT enc k v ao l := fun hl => by
 obtain ⟨b, off, e, hb, h⟩ := h hl
 exact ⟨b, off, e, Nat.lt_of_lt_of_le hb kk.size, h.below kk (hB b off e)⟩
theorem LsT.flat_at (hk : ∀ x, (enc x).length = k) {w : World} {b off : Nat} {l : List α} (h : LsB enc k w b off l) : ∀ j u, (flatE enc l)[j]? = some u → w.cell? ⟨b, off + j, none⟩ = some u := by
 intro j u hu
 have hj : j < l.length * k := by rw [← flatE_len hk l]; exact (List.getElem?_eq_some_iff.1 hu).1
 have k0 : 0 < k := by rcases Nat.eq_zero_or_pos k with e | e
                       ·subst e; simp at hj
                       ·exact e
 have hi : j / k < l.length := Nat.div_lt_of_lt_mul (by rw [Nat.mul_comm]; exact hj)
 have hr : j % k < k := Nat.mod_lt _ k0
 have e : j / k * k + j % k = j := by rw [Nat.mul_comm]; exact Nat.div_add_mod j k
 have hx : l[j / k]? = some l[j / k] := List.getElem?_eq_getElem hi
 have := flatE_at hk l (j / k) _ hx (j % k) hr
 rw [e, hu] at this
 have := h (j / k) _ hx (j % k) u this.symm
 rw [Nat.add_assoc, e] at this
 exact this
theorem LsT.of_own (hk : ∀ x, (enc x).length = k) {w : World} {base : Nat} {t : TypeId} {v : Value} {l : List α} (h : w.ownsRow base t k v l.length (flatE enc l)) :
  ∃ ao c, v = .slice ao l.length c ∧ l.length ≤ c ∧ LsT enc k w ao l ∧ ∀ g off, ao = some ⟨g, off, none⟩ → base ≤ g ∧ g < w.heap.size := by
 rcases h.2 with ⟨hv, h0⟩ | ⟨g, cap, cur, hv, hb, hh, hc, hm, hs, ht⟩
 ·exact ⟨none, 0, by rw [h0]; exact hv, by omega, fun hl => by omega, fun g off e => by cases e⟩
 ·refine ⟨_, cap, hv, hc, fun hl => ⟨g, 0, rfl, Has.here (t := t) (cs := cur) hh, fun i x hi j u hu => ?_⟩, fun g' off e => ?_⟩
  ·have hj : j < k := by rw [← hk x]; exact (List.getElem?_eq_some_iff.1 hu).1
   have hi' : i < l.length := (List.getElem?_eq_some_iff.1 hi).1
   have hlt : i * k + j < l.length * k := by
    have := Nat.mul_le_mul_right k (show i + 1 ≤ l.length from hi'); rw [Nat.add_mul, Nat.one_mul] at this; omega
   have e := flatE_at hk l i x hi j hj
   have hG : Has w g t cur := hh
   rw [Nat.zero_add, hG.at_, ← hu, ← e, ← ht, List.getElem?_take, if_pos hlt]
   simp
  ·cases e
   exact ⟨hb, Has.here (t := t) (cs := cur) hh⟩
theorem own_below {w v : World} {base n : Nat} {t : TypeId} {size B : Nat} {x : Value} {xs : List Value} (h : w.ownsRow base t size x n xs) (kk : Below w.heap.size w v) : v.ownsRow base t size x n xs := by
 obtain ⟨h1, h2⟩ := h
 refine ⟨h1, h2.imp id ?_⟩
 rintro ⟨g, cap, cur, e, hb, hh, r⟩
 have hg : g < w.heap.size := Has.here (t := t) (cs := cur) hh
 exact ⟨g, cap, cur, e, hb, (kk.block g hg).trans hh, r⟩
theorem own_apart {w : World} {base n g : Nat} {t t' : TypeId} {size : Nat} {x : Value} {xs : List Value} {cs : Array Value} (h : w.ownsRow base t size x n xs) (hh : Has w g t' cs) (ht : t ≠ t') : some g ≠ x.ownBlock := by
 intro e
 rcases h.2 with ⟨hv, _⟩ | ⟨g', cap, cur, hv, _, hc, _⟩
 ·rw [hv] at e; cases e
 ·rw [hv] at e
  cases e
  have := hc.symm.trans hh
  simp at this
  exact ht this.2
end
def encI (x : It) : List Value := [.int .i64 x.id, .int .i64 x.lx, .int .i64 x.ly, .int .i64 x.hx, .int .i64 x.hy, .bool x.st]
def encP (p : Int × Int) : List Value := [.int .i64 p.1, .int .i64 p.2]
theorem ElT.i6 {w : World} {b o : Nat} {x : It} (h : ElT encI w b o x) : w.cell? ⟨b, o, none⟩ = some (.int .i64 x.id) ∧ w.cell? ⟨b, o + 1, none⟩ = some (.int .i64 x.lx) ∧ w.cell? ⟨b, o + 2, none⟩ = some (.int .i64 x.ly) ∧ w.cell? ⟨b, o + 3, none⟩ = some (.int .i64 x.hx) ∧ w.cell? ⟨b, o + 4, none⟩ = some (.int .i64 x.hy) ∧ w.cell? ⟨b, o + 5, none⟩ = some (.bool x.st) :=
 ⟨h 0 _ rfl, h 1 _ rfl, h 2 _ rfl, h 3 _ rfl, h 4 _ rfl, h 5 _ rfl⟩
theorem ElT.p2 {w : World} {b o : Nat} {p : Int × Int} (h : ElT encP w b o p) : w.cell? ⟨b, o, none⟩ = some (.int .i64 p.1) ∧ w.cell? ⟨b, o + 1, none⟩ = some (.int .i64 p.2) :=
 ⟨h 0 _ rfl, h 1 _ rfl⟩
def ItI (x : It) : Prop := I64 x.id ∧ I64 x.lx ∧ I64 x.ly ∧ I64 x.hx ∧ I64 x.hy
def ItsI (l : List It) : Prop := ∀ x ∈ l, ItI x
end Go.Proofs.YtgdcphmmehedoaaGreat.Fx
/- Contracts of package fix. -/
/- Contracts of package fix's small functions. -/
namespace Go.Proofs.YtgdcphmmehedoaaGreat.Fx
open Go.ChangeShapes Go.WideShapes Go.ChangeAt Go.RowKit
set_option linter.unusedVariables false
theorem ret_i {k : IntKind} {a b : Int} (h : a = b) : Ending.returned (.int k a) = .returned (.int k b) := by rw [h]
theorem counted_c (a : Int) (w : World) (h : I64 a) :
  Calls Tryz.prog 106 #[.int .i64 a] w fun e w' => e = .returned (.int .i64 (cl a)) ∧ w = w' := by
 obtain ⟨h0, h1⟩ := h
 by_cases hlt : a < -9223372036854775807
 ·go_enter Tryz.func106, Tryz.ntmps106
  go_wp2
  go_ret
  exact ⟨ret_i (by unfold cl; omega), rfl⟩
 ·go_enter Tryz.func106, Tryz.ntmps106
  go_wp2
  go_ret
  exact ⟨ret_i (by unfold cl; omega), rfl⟩
theorem neg_c (a : Int) (w : World) (h : I64 a) :
  Calls Tryz.prog 105 #[.int .i64 a] w fun e w' => e = .returned (.int .i64 (negF a)) ∧ w = w' := by
 have hb := cl_bd h
 unfold L M at hb
 obtain ⟨hb0, hb1⟩ := hb
 go_enter Tryz.func105, Tryz.ntmps105
 go_wp2_with (go_at_call 106; refine (counted_c _ _ h).mono ?_; rintro e w' ⟨rfl, rfl⟩)
 go_ret
 exact ⟨ret_i (by unfold negF; omega), rfl⟩
theorem abs_c (a : Int) (w : World) (h : I64 a) :
  Calls Tryz.prog 159 #[.int .i64 a] w fun e w' => e = .returned (.int .i64 (absF a)) ∧ w = w' := by
 by_cases hlt : a < 0
 ·go_enter Tryz.func159, Tryz.ntmps159
  go_wp2_with (go_at_call 105; refine (neg_c _ _ h).mono ?_; rintro e w' ⟨rfl, rfl⟩)
  go_ret
  exact ⟨ret_i (by unfold absF; rw [if_pos hlt]), rfl⟩
 ·go_enter Tryz.func159, Tryz.ntmps159
  go_wp2
  go_ret
  exact ⟨ret_i (by unfold absF; rw [if_neg (by omega)]), rfl⟩
theorem size_c (a : Int) (w : World) (h : I64 a) :
  Calls Tryz.prog 157 #[.int .i64 a] w fun e w' => e = .returned (.int .u64 (absF a)) ∧ w = w' := by
 have hb := absF_bd h
 unfold M at hb
 obtain ⟨hb0, hb1⟩ := hb
 go_enter Tryz.func157, Tryz.ntmps157
 go_wp2_with (go_at_call 159; refine (abs_c _ _ h).mono ?_; rintro e w' ⟨rfl, rfl⟩)
 go_ret
 exact ⟨ret_i (by omega), rfl⟩
theorem add_c (a b : Int) (w : World) (ha : I64 a) (hb : I64 b) :
  Calls Tryz.prog 155 #[.int .i64 a, .int .i64 b] w fun e w' => e = .returned (.int .i64 (addF a b)) ∧ w = w' := by
 have hx := cl_bd ha
 have hy := cl_bd hb
 unfold L M at hx hy
 obtain ⟨hx0, hx1⟩ := hx
 obtain ⟨hy0, hy1⟩ := hy
 have HF : Hid (addF a b = sat (cl a + cl b)) := rfl
 by_cases h1 : 0 < cl b
 ·by_cases h2 : 9223372036854775807 - cl b < cl a
  ·go_enter Tryz.func155, Tryz.ntmps155
   go_wp2_with (go_at_call 106; first | (refine (counted_c _ _ ha).mono ?_; rintro e w' ⟨rfl, rfl⟩) | (refine (counted_c _ _ hb).mono ?_; rintro e w' ⟨rfl, rfl⟩))
   go_ret
   exact ⟨ret_i (by rw [HF.out]; unfold sat; omega), rfl⟩
  ·go_enter Tryz.func155, Tryz.ntmps155
   go_wp2_with (go_at_call 106; first | (refine (counted_c _ _ ha).mono ?_; rintro e w' ⟨rfl, rfl⟩) | (refine (counted_c _ _ hb).mono ?_; rintro e w' ⟨rfl, rfl⟩))
   go_ret
   exact ⟨ret_i (by rw [HF.out]; unfold sat; omega), rfl⟩
 ·by_cases h2 : cl b < 0
  ·by_cases h3 : cl a < -9223372036854775807 - cl b
   ·go_enter Tryz.func155, Tryz.ntmps155
    go_wp2_with (go_at_call 106; first | (refine (counted_c _ _ ha).mono ?_; rintro e w' ⟨rfl, rfl⟩) | (refine (counted_c _ _ hb).mono ?_; rintro e w' ⟨rfl, rfl⟩))
    go_ret
    exact ⟨ret_i (by rw [HF.out]; unfold sat; omega), rfl⟩
   ·go_enter Tryz.func155, Tryz.ntmps155
    go_wp2_with (go_at_call 106; first | (refine (counted_c _ _ ha).mono ?_; rintro e w' ⟨rfl, rfl⟩) | (refine (counted_c _ _ hb).mono ?_; rintro e w' ⟨rfl, rfl⟩))
    go_ret
    exact ⟨ret_i (by rw [HF.out]; unfold sat; omega), rfl⟩
  ·go_enter Tryz.func155, Tryz.ntmps155
   go_wp2_with (go_at_call 106; first | (refine (counted_c _ _ ha).mono ?_; rintro e w' ⟨rfl, rfl⟩) | (refine (counted_c _ _ hb).mono ?_; rintro e w' ⟨rfl, rfl⟩))
   go_ret
   exact ⟨ret_i (by rw [HF.out]; unfold sat; omega), rfl⟩
theorem I64_neg {a : Int} (h : I64 a) : I64 (negF a) := by
 have := cl_bd h; unfold negF I64 L M at *; omega
theorem sub_c (a b : Int) (w : World) (ha : I64 a) (hb : I64 b) :
  Calls Tryz.prog 153 #[.int .i64 a, .int .i64 b] w fun e w' => e = .returned (.int .i64 (subF a b)) ∧ w = w' := by
 have hn := I64_neg hb
 go_enter Tryz.func153, Tryz.ntmps153
 go_wp2_with (first | (go_at_call 105; refine (neg_c _ _ hb).mono ?_; rintro e w' ⟨rfl, rfl⟩) | (go_at_call 155; refine (add_c _ _ _ ha hn).mono ?_; rintro e w' ⟨rfl, rfl⟩))
 go_ret
 exact ⟨ret_i (by unfold subF; rfl), rfl⟩
theorem signed_c (n : Int) (t : Bool) (w : World) (h0 : 0 ≤ n) (h1 : n ≤ 18446744073709551615) :
  Calls Tryz.prog 158 #[.int .u64 n, .bool t] w fun e w' => e = .returned (.int .i64 (signF n t)) ∧ w = w' := by
 by_cases hlt : n ≤ 9223372036854775807
 ·cases t
  ·go_enter Tryz.func158, Tryz.ntmps158
   go_wp2
   go_ret
   exact ⟨ret_i (by unfold signF; simp; omega), rfl⟩
  ·go_enter Tryz.func158, Tryz.ntmps158
   go_wp2
   go_ret
   exact ⟨ret_i (by unfold signF; simp; omega), rfl⟩
 ·cases t
  ·go_enter Tryz.func158, Tryz.ntmps158
   go_wp2
   go_ret
   exact ⟨ret_i (by unfold signF; simp; omega), rfl⟩
  ·go_enter Tryz.func158, Tryz.ntmps158
   go_wp2
   go_ret
   exact ⟨ret_i (by unfold signF; simp; omega), rfl⟩
theorem ret_ii {k : IntKind} {a b c d : Int} (h : a = b) (h' : c = d) : Ending.returned (.tuple #[.int k a, .int k c]) = .returned (.tuple #[.int k b, .int k d]) := by rw [h, h']
end Go.Proofs.YtgdcphmmehedoaaGreat.Fx
/- Contracts: products, quotients. -/
namespace Go.Proofs.YtgdcphmmehedoaaGreat.Fx
open Go.ChangeShapes Go.WideShapes Go.ChangeAt Go.RowKit
set_option linter.unusedVariables false
theorem maskN (a : Nat) (ha : a < 18446744073709551616) : bits .and .u64 (a : Int) 4294967295 = ((a % 4294967296 : Nat) : Int) := by
 have h := bits_and_u64_nat a 4294967295 ha (by omega)
 have e : a &&& 4294967295 = a % 4294967296 := Nat.and_two_pow_sub_one_eq_mod a 32
 rw [e] at h
 exact h
theorem divN (a : Nat) : (a : Int) / 4294967296 = ((a / 4294967296 : Nat) : Int) := by omega
theorem mulN (a b : Nat) : (a : Int) * (b : Int) = ((a * b : Nat) : Int) := (Int.natCast_mul a b).symm
theorem addN (a b : Nat) : (a : Int) + (b : Int) = ((a + b : Nat) : Int) := (Int.natCast_add a b).symm
theorem wrapN (a : Nat) (ha : a < 18446744073709551616) : IntKind.u64.wrap (a : Int) = (a : Int) := by rw [IntKind.wrap_u64]; omega
theorem wrapM (a : Nat) : IntKind.u64.wrap (a : Int) = ((a % 18446744073709551616 : Nat) : Int) := by rw [IntKind.wrap_u64]; omega
theorem mul64_n (x y : Nat) (hx : x < 18446744073709551616) (hy : y < 18446744073709551616) (w : World) :
  Calls Tryz.prog 156 #[.int .u64 (x : Int), .int .u64 (y : Int)] w fun e w' => e = .returned (.tuple #[.int .u64 ((x * y / 18446744073709551616 : Nat) : Int), .int .u64 ((x * y % 18446744073709551616 : Nat) : Int)]) ∧ w = w' := by
 obtain ⟨bd, bt, bw, hhi⟩ := Lib.mul64_hi x y hx hy
 have ba := Lib.half_mul_le (a := x / 4294967296) (b := y / 4294967296) (by omega) (by omega)
 have bb := Lib.half_mul_le (a := x / 4294967296) (b := y % 4294967296) (by omega) (by omega)
 have bc := Lib.half_mul_le (a := x % 4294967296) (b := y / 4294967296) (by omega) (by omega)
 have ba' : x / 4294967296 * (y / 4294967296) < 18446744073709551616 := by omega
 have bb' : x / 4294967296 * (y % 4294967296) < 18446744073709551616 := by omega
 have bc' : x % 4294967296 * (y / 4294967296) < 18446744073709551616 := by omega
 have bh1 : x / 4294967296 * (y / 4294967296) + (x / 4294967296 * (y % 4294967296) + x % 4294967296 * (y % 4294967296) / 4294967296) / 4294967296 < 18446744073709551616 := by omega
 have bh : x / 4294967296 * (y / 4294967296) + (x / 4294967296 * (y % 4294967296) + x % 4294967296 * (y % 4294967296) / 4294967296) / 4294967296 + ((x / 4294967296 * (y % 4294967296) + x % 4294967296 * (y % 4294967296) / 4294967296) % 4294967296 + x % 4294967296 * (y / 4294967296)) / 4294967296 < 18446744073709551616 := by omega
 go_enter Tryz.func156, Tryz.ntmps156
 go_wp2
 simp only [maskN x hx, maskN y hy, divN, mulN, addN, wrapN _ bd, wrapN _ bb', wrapN _ bt, maskN _ bt, wrapN _ bc', wrapN _ bw, wrapN _ ba', wrapN _ bh1, wrapN _ bh, wrapM (x * y)]
 rw [hhi]
 go_ret2
 exact ⟨rfl, rfl⟩
theorem mul64_c (x y : Int) (w : World) (h0 : 0 ≤ x) (h1 : x ≤ 18446744073709551615) (h2 : 0 ≤ y) (h3 : y ≤ 18446744073709551615) :
  Calls Tryz.prog 156 #[.int .u64 x, .int .u64 y] w fun e w' => e = .returned (.tuple #[.int .u64 (x * y / 18446744073709551616), .int .u64 (x * y % 18446744073709551616)]) ∧ w = w' := by
 obtain ⟨n, rfl⟩ := Int.eq_ofNat_of_zero_le h0
 obtain ⟨m, rfl⟩ := Int.eq_ofNat_of_zero_le h2
 refine (mul64_n n m (by omega) (by omega) w).mono ?_
 rintro e w' ⟨rfl, rfl⟩
 exact ⟨ret_ii (by simp) (by simp), rfl⟩
end Go.Proofs.YtgdcphmmehedoaaGreat.Fx
/- Contracts: products. -/
namespace Go.Proofs.YtgdcphmmehedoaaGreat.Fx
open Go.ChangeShapes Go.WideShapes Go.ChangeAt Go.RowKit
set_option linter.unusedVariables false
theorem or_joint (a b : Int) (h0 : 0 ≤ a) (h1 : a < 4294967296) (h2 : 0 ≤ b) (h3 : b < 4294967296) :
  bits .or .u64 (a * 4294967296) b = a * 4294967296 + b := by
 obtain ⟨n, rfl⟩ := Int.eq_ofNat_of_zero_le h0
 obtain ⟨m, rfl⟩ := Int.eq_ofNat_of_zero_le h2
 have h := bits_or_u64_nat (n * 4294967296) m (by omega) (by omega)
 have e : n * 4294967296 ||| m = n * 4294967296 + m := by
  have := Nat.two_pow_add_eq_or_of_lt (i := 32) (b := m) (by omega) n
  rw [show (2 : Nat) ^ 32 = 4294967296 from rfl, Nat.mul_comm] at this
  exact this.symm
 rw [e] at h
 simpa using h
theorem prod_bd {x y : Int} (hx0 : 0 ≤ x) (hx1 : x ≤ 9223372036854775807) (hy0 : 0 ≤ y) (hy1 : y ≤ 9223372036854775807) :
  0 ≤ x * y ∧ x * y ≤ 85070591730234615847396907784232501249 := by
 refine ⟨Int.mul_nonneg hx0 hy0, ?_⟩
 have := Int.mul_le_mul hx1 hy1 hy0 (by omega)
 omega
theorem join_words (p : Int) (h0 : 0 ≤ p) (h : p / 18446744073709551616 / 4294967296 = 0) :
  bits .or .u64 (IntKind.u64.wrap (p / 18446744073709551616 * 4294967296)) (p % 18446744073709551616 / 4294967296) = p / 4294967296 := by
 rw [IntKind.wrap_u64]
 have e : p / 18446744073709551616 * 4294967296 % 18446744073709551616 = p / 18446744073709551616 * 4294967296 := by omega
 rw [e, or_joint _ _ (by omega) (by omega) (by omega) (by omega)]
 omega
theorem signF_big (n : Int) (t : Bool) (h : 9223372036854775807 ≤ n) : signF n t = signF 9223372036854775807 t := by
 unfold signF; split
 ·rw [if_neg (by omega), if_neg (by omega)]
 ·rw [if_neg (by omega), if_neg (by omega)]
theorem mul_c (a b : Int) (w : World) (ha : I64 a) (hb : I64 b) :
  Calls Tryz.prog 154 #[.int .i64 a, .int .i64 b] w fun e w' => e = .returned (.int .i64 (mulF a b)) ∧ w = w' := by
 have hx := absF_bd ha
 have hy := absF_bd hb
 unfold M at hx hy
 obtain ⟨hx0, hx1⟩ := hx
 obtain ⟨hy0, hy1⟩ := hy
 have hp := prod_bd hx0 hx1 hy0 hy1
 obtain ⟨hp0, hp1⟩ := hp
 have HF : Hid (mulF a b = signF (absF a * absF b / 4294967296) (decide (a < 0) != decide (b < 0))) := rfl
 have hx2 : absF a ≤ 18446744073709551615 := by omega
 have hy2 : absF b ≤ 18446744073709551615 := by omega
 by_cases hc : absF a * absF b / 18446744073709551616 / 4294967296 = 0
 ·have HJ : Hid _ := join_words _ hp0 hc
  have hc' : (absF a * absF b / 18446744073709551616 / 4294967296 == 0) = true := by simp [hc]
  clear hc
  go_enter Tryz.func154, Tryz.ntmps154
  go_wp2_with (first | (go_at_call 157; first | (refine (size_c _ _ ha).mono ?_; rintro e w' ⟨rfl, rfl⟩) | (refine (size_c _ _ hb).mono ?_; rintro e w' ⟨rfl, rfl⟩)) | (go_at_call 156; refine (mul64_c _ _ _ hx0 hx2 hy0 hy2).mono ?_; rintro e w' ⟨rfl, rfl⟩) | (go_at_call 158; fail))
  rw [HJ.out]
  refine (signed_c _ _ _ (by omega) (by simp at hc'; omega)).mono ?_
  rintro e w' ⟨rfl, rfl⟩
  go_wp2
  go_ret
  exact ⟨ret_i (by rw [HF.out]; rfl), rfl⟩
 ·have hc' : (absF a * absF b / 18446744073709551616 / 4294967296 == 0) = false := by simp; omega
  have HJ : Hid (9223372036854775807 ≤ absF a * absF b / 4294967296) := by unfold Hid; omega
  clear hc
  go_enter Tryz.func154, Tryz.ntmps154
  go_wp2_with (first | (go_at_call 157; first | (refine (size_c _ _ ha).mono ?_; rintro e w' ⟨rfl, rfl⟩) | (refine (size_c _ _ hb).mono ?_; rintro e w' ⟨rfl, rfl⟩)) | (go_at_call 156; refine (mul64_c _ _ _ hx0 hx2 hy0 hy2).mono ?_; rintro e w' ⟨rfl, rfl⟩) | (go_at_call 158; fail))
  refine (signed_c _ _ _ (by omega) (by omega)).mono ?_
  rintro e w' ⟨rfl, rfl⟩
  go_wp2
  go_ret
  exact ⟨ret_i (by rw [HF.out, signF_big _ _ HJ.out]; rfl), rfl⟩
end Go.Proofs.YtgdcphmmehedoaaGreat.Fx
/- Contracts: numbers of bits. -/
namespace Go.Proofs.YtgdcphmmehedoaaGreat.Fx
open Go.ChangeShapes Go.WideShapes Go.ChangeAt Go.RowKit
set_option linter.unusedVariables false
end Go.Proofs.YtgdcphmmehedoaaGreat.Fx
/- Contracts: whole numbers. -/
namespace Go.Proofs.YtgdcphmmehedoaaGreat.Fx
open Go.ChangeShapes Go.WideShapes Go.ChangeAt Go.RowKit
set_option linter.unusedVariables false
theorem bring_c (a b c : Int) (w : World) (ha : I64 a) (hb : I64 b) (hc : I64 c) :
  Calls Tryz.prog 82 #[.int .i64 a, .int .i64 b, .int .i64 c] w fun e w' => e = .returned (.int .i64 (bringF a b c)) ∧ w = w' := by
 have h1 := cl_bd ha
 have h2 := cl_bd hb
 have h3 := cl_bd hc
 unfold L M at h1 h2 h3
 by_cases c1 : cl a < cl b
 ·go_enter Tryz.func82, Tryz.ntmps82
  go_wp2_with (go_at_call 106; first | (refine (counted_c _ _ ha).mono ?_; rintro e w' ⟨rfl, rfl⟩) | (refine (counted_c _ _ hb).mono ?_; rintro e w' ⟨rfl, rfl⟩) | (refine (counted_c _ _ hc).mono ?_; rintro e w' ⟨rfl, rfl⟩))
  go_ret
  exact ⟨ret_i (by unfold bringF; rw [if_pos (by omega)]), rfl⟩
 ·by_cases c2 : cl c < cl a
  ·go_enter Tryz.func82, Tryz.ntmps82
   go_wp2_with (go_at_call 106; first | (refine (counted_c _ _ ha).mono ?_; rintro e w' ⟨rfl, rfl⟩) | (refine (counted_c _ _ hb).mono ?_; rintro e w' ⟨rfl, rfl⟩) | (refine (counted_c _ _ hc).mono ?_; rintro e w' ⟨rfl, rfl⟩))
   go_ret
   exact ⟨ret_i (by unfold bringF; rw [if_neg (by omega), if_pos (by omega)]), rfl⟩
  ·go_enter Tryz.func82, Tryz.ntmps82
   go_wp2_with (go_at_call 106; first | (refine (counted_c _ _ ha).mono ?_; rintro e w' ⟨rfl, rfl⟩) | (refine (counted_c _ _ hb).mono ?_; rintro e w' ⟨rfl, rfl⟩) | (refine (counted_c _ _ hc).mono ?_; rintro e w' ⟨rfl, rfl⟩))
   go_ret
   exact ⟨ret_i (by unfold bringF; rw [if_neg (by omega), if_neg (by omega)]), rfl⟩
end Go.Proofs.YtgdcphmmehedoaaGreat.Fx
/- The plain arithmetic of the schoolbook quotient: no Go in sight. -/
namespace Go.Proofs.YtgdcphmmehedoaaGreat.Fx
open Go
def Dig (n y1 q a b : Int) : Prop := q ≤ a ∧ a ≤ 4294967297 ∧ a * y1 + b = n ∧ 0 ≤ b ∧ b < 4294967296
structure DigP (n d y1 y0 q : Int) : Prop where
 hn0 : 0 ≤ n
 hn : n < y1 * 4294967296 + y0
 hd0 : 0 ≤ d
 hd : d < 4294967296
 hy1 : 2147483648 ≤ y1
 hy2 : y1 < 4294967296
 hy0 : 0 ≤ y0
 hy3 : y0 < 4294967296
 hq : q = (n * 4294967296 + d) / (y1 * 4294967296 + y0)
end Go.Proofs.YtgdcphmmehedoaaGreat.Fx
/- Contracts: quotients of two words. -/
namespace Go.Proofs.YtgdcphmmehedoaaGreat.Fx
open Go.ChangeShapes Go.WideShapes Go.ChangeAt Go.RowKit
set_option linter.unusedVariables false
structure Norm (hi lo y : Int) (s : Nat) (Y y1 y0 n l d1 d0 q m p : Int) : Prop where
 eY : IntKind.u64.wrap (y * 2 ^ s) = Y
 e1 : Y / 4294967296 = y1
 e0 : bits .and .u64 Y 4294967295 = y0
 en : bits .or .u64 (IntKind.u64.wrap (hi * 2 ^ s)) (lo / 2 ^ (64 - s)) = n
 el : IntKind.u64.wrap (lo * 2 ^ s) = l
 f1 : l / 4294967296 = d1
 f0 : bits .and .u64 l 4294967295 = d0
 em : IntKind.u64.wrap (IntKind.u64.wrap (IntKind.u64.wrap (n * 4294967296) + d1) - IntKind.u64.wrap (q * Y)) = m
 Y0 : 9223372036854775808 ≤ Y
 Y1 : Y ≤ 18446744073709551615
 l0 : 0 ≤ l
 l1 : l ≤ 18446744073709551615
 Yn : Y = y1 * 4294967296 + y0
 P1 : DigP n d1 y1 y0 q
 P0 : DigP m d0 y1 y0 p
 all : (hi * 18446744073709551616 + lo) / y = q * 4294967296 + p
end Go.Proofs.YtgdcphmmehedoaaGreat.Fx
/- Contracts: the quotient of two words by one. -/
namespace Go.Proofs.YtgdcphmmehedoaaGreat.Fx
open Go.ChangeShapes Go.WideShapes Go.ChangeAt Go.RowKit
set_option linter.unusedVariables false
def QuoR (q : Int) (w : World) (e : Ending) (w' : World) : Prop := ∃ (r : Int) (k : Nat), e = .returned (.tuple #[.int .u64 q, .int .u64 r]) ∧ w' = w.drewN k
def Ret (v : Value) (w : World) (e : Ending) (w' : World) : Prop := e = .returned v ∧ ∃ k : Nat, w' = w.drewN k
end Go.Proofs.YtgdcphmmehedoaaGreat.Fx
/- Contracts: quotients, parts. -/
namespace Go.Proofs.YtgdcphmmehedoaaGreat.Fx
open Go.ChangeShapes Go.WideShapes Go.ChangeAt Go.RowKit
set_option linter.unusedVariables false
end Go.Proofs.YtgdcphmmehedoaaGreat.Fx
/- Contracts: roots. -/
namespace Go.Proofs.YtgdcphmmehedoaaGreat.Fx
open Go.ChangeShapes Go.WideShapes Go.ChangeAt Go.RowKit
set_option linter.unusedVariables false
def Rt (P S : Int) (k : Nat) (r t : Int) : Prop := k ≤ 48 ∧ 0 ≤ r ∧ r % 2 ^ k = 0 ∧ r + 2 ^ k ≤ 281474976710656 ∧ t = 2 ^ k / 2 ∧ sqAux P k r = S
theorem two_pow_pos (k : Nat) : (0 : Int) < 2 ^ k := Int.pow_pos (by omega)
end Go.Proofs.YtgdcphmmehedoaaGreat.Fx
/- Sum: its contract (any number of numbers), and of three. -/
namespace Go.Proofs.YtgdcphmmehedoaaGreat.Fx
open Go.ChangeShapes Go.WideShapes Go.ChangeAt Go.RowKit
set_option linter.unusedVariables false
def sumL (zs : List Int) : Int := zs.foldl addF 0
end Go.Proofs.YtgdcphmmehedoaaGreat.Fx
/- Contracts of the table of sines. -/
namespace Go.Proofs.YtgdcphmmehedoaaGreat.Fx
open Go.ChangeShapes Go.WideShapes Go.ChangeAt Go.RowKit
set_option linter.unusedVariables false
def tabV : Array Value := (tabL.map (Value.int .i64)).toArray
def zeroV : Array Value := (List.replicate 257 (Value.int .i64 0)).toArray
def rowSet (cs : Array Value) : Obj → Obj
 | .cells _ t f => .cells cs t f
 | o => o
def Tabbed (w wx : World) : Prop := Made w.heap.size w wx ∧ ∀ k : Nat, k < 257 → wx.cell? ⟨w.heap.size, k, none⟩ = some (.int .i64 (tabF k))
end Go.Proofs.YtgdcphmmehedoaaGreat.Fx
/- Sines and cosines of steps, plain: what the statements of layer 2 need to know of the table. -/
namespace Go.Proofs.YtgdcphmmehedoaaGreat.Fx
def sn (k : Int) : Int := if k ≤ 256 then tabF k else if k ≤ 512 then tabF (512 - k) else if k ≤ 768 then -tabF (k - 512) else -tabF (1024 - k)
def cs (k : Int) : Int := sn ((k + 256) % 1024)
def wrapF (a : Int) : Int := cl a % 4294967296
def stepF (a : Int) : Int := wrapF a / 4194304
def tabOk (k : Int) : Bool := decide (0 ≤ tabF k) && decide (tabF k ≤ 4294967296)
def gapOk (k : Int) : Bool := decide (tabF k + 4 ≤ tabF (k + 1))
def turnOk (k : Int) : Bool := decide (sn ((k + 512) % 1024) = -sn k) && decide (sn ((1024 - k) % 1024) = -sn k) && decide (cs ((1024 - k) % 1024) = cs k) && decide (absF (addF (mulF (cs k) (cs k)) (mulF (sn k) (sn k)) - 4294967296) < 8)
def quartOk (k : Int) : Bool := decide (sn k < sn (k + 1)) && decide (cs (k + 1) < cs k) && decide (0 ≤ sn k) && decide (0 < cs k)
def tabledB (c s : Int) (n : Nat) : Bool := (List.range n).any fun k => decide (cs k = c) && decide (sn k = s)
end Go.Proofs.YtgdcphmmehedoaaGreat.Fx
/- Contracts of package turn: angles, steps, sines. -/
namespace Go.Proofs.YtgdcphmmehedoaaGreat.Fx
open Go.ChangeShapes Go.WideShapes Go.ChangeAt Go.RowKit
set_option linter.unusedVariables false
theorem and_low (x : Int) (i : Nat) (hi : i ≤ 62) : bits .and .i64 x (2 ^ i - 1) = x % 2 ^ i := by
 have hpos : 0 < 2 ^ i := Nat.two_pow_pos i
 have hdvd : (2 : Nat) ^ i ∣ 2 ^ 64 := Nat.pow_dvd_pow 2 (by omega)
 have hle : (2 : Nat) ^ i ≤ 2 ^ 62 := Nat.pow_le_pow_right (by decide) hi
 have e1 : (BitVec.ofInt 64 ((2 : Int) ^ i - 1)).toNat = 2 ^ i - 1 := by
  have c : ((2 : Int) ^ i - 1) = ((2 ^ i - 1 : Nat) : Int) := by rw [Int.natCast_sub hpos]; simp
  rw [c, BitVec.ofInt_natCast, BitVec.toNat_ofNat, Nat.mod_eq_of_lt (by omega)]
 have e2 : ((BitVec.ofInt 64 x).toNat : Int) = x % 18446744073709551616 := by
  rw [BitVec.toNat_ofInt]; omega
 have hd2 : (2 : Int) ^ i ∣ 18446744073709551616 := by
  have t := Int.natCast_dvd_natCast.2 hdvd
  have e64 : ((2 ^ 64 : Nat) : Int) = 18446744073709551616 := by decide
  rw [e64, Int.natCast_pow] at t
  exact t
 unfold bits
 show IntKind.i64.wrap ((BitVec.ofInt 64 x &&& BitVec.ofInt 64 (2 ^ i - 1)).toNat : Int) = _
 rw [BitVec.toNat_and, e1, Nat.and_two_pow_sub_one_eq_mod, IntKind.wrap_i64]
 have h : (((BitVec.ofInt 64 x).toNat % 2 ^ i : Nat) : Int) = x % 2 ^ i := by
  rw [Int.natCast_emod, e2]
  have hp : (((2 : Nat) ^ i : Nat) : Int) = (2 : Int) ^ i := by rw [Int.natCast_pow]; rfl
  rw [hp]
  exact Int.emod_emod_of_dvd x hd2
 rw [h]
 have b0 : 0 ≤ x % 2 ^ i := Int.emod_nonneg _ (by have : (0:Int) < 2 ^ i := Int.pow_pos (by omega); omega)
 have b1 : x % 2 ^ i < 2 ^ i := Int.emod_lt_of_pos _ (Int.pow_pos (by omega))
 have b2 : (2 : Int) ^ i ≤ 4611686018427387904 := by
  have t := Int.ofNat_le.2 hle
  have e62 : ((2 ^ 62 : Nat) : Int) = 4611686018427387904 := by decide
  rw [e62, Int.natCast_pow] at t
  exact t
 omega
theorem and32 (x : Int) : bits .and .i64 x 4294967295 = x % 4294967296 := and_low x 32 (by omega)
theorem and8 (x : Int) : bits .and .i64 x 255 = x % 256 := and_low x 8 (by omega)
abbrev rotV (c s : Int) : Value := .agg #[.int .i64 c, .int .i64 s]
theorem I64_wf {n : Int} (h : (Lit.int .i64 n).wf = true) : I64 n := bounds_i64 h
theorem cl_id {a : Int} (h : -9223372036854775807 ≤ a) : cl a = a := by unfold cl; rw [if_neg (by omega)]
end Go.Proofs.YtgdcphmmehedoaaGreat.Fx
/- Contracts of package vec. -/
/- Contracts of package vec. -/
namespace Go.Proofs.YtgdcphmmehedoaaGreat.Fx
open Go.ChangeShapes Go.WideShapes Go.ChangeAt Go.RowKit
set_option linter.unusedVariables false
abbrev vecV (x y : Int) : Value := .agg #[.int .i64 x, .int .i64 y]
theorem made_box {w w1 : World} {A : Array Value} {t : TypeId} (hb : Made (w.alloc (.cells A t)).heap.size (w.alloc (.cells A t)) w1) : Made w.heap.size w w1 :=
 ((Made.rfl_ w.heap.size w).cells (Nat.le_refl _) A t).then_ (hb.low (by simp))
theorem vsub_c (a b c d : Int) (w : World) (ha : I64 a) (hb : I64 b) (hc : I64 c) (hd : I64 d) :
  Calls Tryz.prog 149 #[vecV a b, vecV c d] w fun e w' => e = .returned (vecV (subF a c) (subF b d)) ∧ Made w.heap.size w w' := by
 go_enter Tryz.func149, Tryz.ntmps149
 go_wp2_with fail
 refine reg_made_tail 11 (by kernel_rfl) (by kernel_rfl) ?_
 intro T hT f hf
 have c00 := Class.reads hf (p := ⟨w.heap.size, 0, none⟩) (u := .int .i64 a) (by go_simp)
 have c01 := Class.reads hf (p := ⟨w.heap.size, 1, none⟩) (u := .int .i64 b) (by go_simp)
 have c10 := Class.reads hf (p := ⟨w.heap.size + 1, 0, none⟩) (u := .int .i64 c) (by go_simp)
 have c11 := Class.reads hf (p := ⟨w.heap.size + 1, 1, none⟩) (u := .int .i64 d) (by go_simp)
 simp only [List.take_succ_cons, List.take_zero, List.drop_succ_cons, List.drop_zero]
 repeat (go_big_quiet_step (((go_at_call 153; exact hf.same (sub_c _ _ _ (by first | assumption | exact i64_mul _ _ | exact i64_add _ _ | exact i64_sub _ _ | exact i64_div _ _ | exact i64_sqrt _ | exact i64_neg (by assumption)) (by first | assumption | exact i64_mul _ _ | exact i64_add _ _ | exact i64_sub _ _ | exact i64_div _ _ | exact i64_sqrt _ | exact i64_neg (by assumption)))))))
 refine wpQuiet_nil ?_
 intro w1 h1
 have hb := hf.here h1
 have r0 := hb.reads (p := ⟨w.heap.size + 1 + 1, 0, none⟩) (x := .int .i64 0) (by go_simp)
 have m0 : w1.frozen? ⟨w.heap.size + 1 + 1, 0, none⟩ = false := (hb.2 _).trans (by go_simp)
 have r1 := hb.reads (p := ⟨w.heap.size + 1 + 1, 1, none⟩) (x := .int .i64 0) (by go_simp)
 have m1 : w1.frozen? ⟨w.heap.size + 1 + 1, 1, none⟩ = false := (hb.2 _).trans (by go_simp)
 have hw := hid (made_box (made_box (made_box (hb))))
 clear hb hf h1 c00 c01 c10 c11
 go_wp2_with fail
 refine bodyPost_ret (v := vecV (subF a c) (subF b d)) (by simp [results, Tryz.results149, go_sem, r0, r1]) rfl ⟨rfl, ?_⟩
 exact (hw.out.put (by simp; try omega) _).put (by simp; try omega) _
theorem vcross_c (a b c d : Int) (w : World) (ha : I64 a) (hb : I64 b) (hc : I64 c) (hd : I64 d) :
  Calls Tryz.prog 151 #[vecV a b, vecV c d] w fun e w' => e = .returned (.int .i64 (subF (mulF a d) (mulF b c))) ∧ Made w.heap.size w w' := by
 go_enter Tryz.func151, Tryz.ntmps151
 go_wp2_with fail
 refine reg_made (by kernel_rfl) (by kernel_rfl) ?_
 intro T hT f hf
 have c00 := Class.reads hf (p := ⟨w.heap.size, 0, none⟩) (u := .int .i64 a) (by go_simp)
 have c01 := Class.reads hf (p := ⟨w.heap.size, 1, none⟩) (u := .int .i64 b) (by go_simp)
 have c10 := Class.reads hf (p := ⟨w.heap.size + 1, 0, none⟩) (u := .int .i64 c) (by go_simp)
 have c11 := Class.reads hf (p := ⟨w.heap.size + 1, 1, none⟩) (u := .int .i64 d) (by go_simp)
 repeat (go_big_quiet_step ((first
   | (go_at_call 154; exact hf.same (mul_c _ _ _ (by first | assumption | exact i64_mul _ _ | exact i64_add _ _ | exact i64_sub _ _ | exact i64_div _ _ | exact i64_sqrt _ | exact i64_neg (by assumption)) (by first | assumption | exact i64_mul _ _ | exact i64_add _ _ | exact i64_sub _ _ | exact i64_div _ _ | exact i64_sqrt _ | exact i64_neg (by assumption))))
   | (go_at_call 153; exact hf.same (sub_c _ _ _ (by first | assumption | exact i64_mul _ _ | exact i64_add _ _ | exact i64_sub _ _ | exact i64_div _ _ | exact i64_sqrt _ | exact i64_neg (by assumption)) (by first | assumption | exact i64_mul _ _ | exact i64_add _ _ | exact i64_sub _ _ | exact i64_div _ _ | exact i64_sqrt _ | exact i64_neg (by assumption)))))))
 refine wpQuiet_nil ?_
 intro w1 h1
 have hb := hf.here h1
 have hw := hid (made_box (made_box (hb)))
 clear hb hf h1 c00 c01 c10 c11
 go_wp2_with fail
 go_ret
 exact ⟨rfl, hw.out⟩
end Go.Proofs.YtgdcphmmehedoaaGreat.Fx
/- Contracts of package vec: Bring, Spun, Len, Unit. -/
namespace Go.Proofs.YtgdcphmmehedoaaGreat.Fx
open Go.ChangeShapes Go.WideShapes Go.ChangeAt Go.RowKit
set_option linter.unusedVariables false
theorem vbring_c (a b m : Int) (w : World) (ha : I64 a) (hb : I64 b) (hm : I64 m) :
  Calls Tryz.prog 81 #[vecV a b, .int .i64 m] w fun e w' => e = .returned (vecV (bringF a (negF m) m) (bringF b (negF m) m)) ∧ Made w.heap.size w w' := by
 have hn := i64_neg hm
 go_enter Tryz.func81, Tryz.ntmps81
 go_wp2_with fail
 refine (neg_c m _ hm).mono ?_
 rintro e w' ⟨rfl, rfl⟩
 go_wp2_with fail
 refine reg_made_tail 11 (by kernel_rfl) (by kernel_rfl) ?_
 intro T hT f hf
 have c00 := Class.reads hf (p := ⟨w.heap.size, 0, none⟩) (u := .int .i64 a) (by go_simp)
 have c01 := Class.reads hf (p := ⟨w.heap.size, 1, none⟩) (u := .int .i64 b) (by go_simp)
 simp only [List.take_succ_cons, List.take_zero, List.drop_succ_cons, List.drop_zero]
 repeat (go_big_quiet_step ((go_at_call 82; exact hf.same (bring_c _ _ _ _ (by assumption) (by assumption) (by assumption)))))
 refine wpQuiet_nil ?_
 intro w1 h1
 have hb := hf.here h1
 have r0 := hb.reads (p := ⟨w.heap.size + 1, 0, none⟩) (x := .int .i64 0) (by go_simp)
 have m0 : w1.frozen? ⟨w.heap.size + 1, 0, none⟩ = false := (hb.2 _).trans (by go_simp)
 have r1 := hb.reads (p := ⟨w.heap.size + 1, 1, none⟩) (x := .int .i64 0) (by go_simp)
 have m1 : w1.frozen? ⟨w.heap.size + 1, 1, none⟩ = false := (hb.2 _).trans (by go_simp)
 have hw := hid (made_box (made_box hb))
 clear hb hf h1 c00 c01
 go_wp2_with fail
 refine bodyPost_ret (v := vecV (bringF a (negF m) m) (bringF b (negF m) m)) (by simp [results, Tryz.results81, go_sem, r0, r1]) rfl ⟨rfl, ?_⟩
 exact (hw.out.put (by simp; try omega) _).put (by simp; try omega) _
def unitV (a b : Int) : Value := if lenF a b = 0 then .tuple #[vecV 0 0, .bool false] else .tuple #[vecV (divF a (lenF a b)) (divF b (lenF a b)), .bool true]
theorem vcross_is (a b c d r : Int) (w : World) (ha : I64 a) (hb : I64 b) (hc : I64 c) (hd : I64 d) (e : subF (mulF a d) (mulF b c) = r) : Calls Tryz.prog 151 #[vecV a b, vecV c d] w fun e w' => e = .returned (.int .i64 r) ∧ Made w.heap.size w w' := by subst e; exact vcross_c a b c d w ha hb hc hd
theorem vsub_is (a b c d x y : Int) (w : World) (ha : I64 a) (hb : I64 b) (hc : I64 c) (hd : I64 d) (ex : subF a c = x) (ey : subF b d = y) : Calls Tryz.prog 149 #[vecV a b, vecV c d] w fun e w' => e = .returned (vecV x y) ∧ Made w.heap.size w w' := by subst ex; subst ey; exact vsub_c a b c d w ha hb hc hd
theorem vbring_is (a b m x y : Int) (w : World) (ha : I64 a) (hb : I64 b) (hm : I64 m) (ex : bringF a (negF m) m = x) (ey : bringF b (negF m) m = y) : Calls Tryz.prog 81 #[vecV a b, .int .i64 m] w fun e w' => e = .returned (vecV x y) ∧ Made w.heap.size w w' := by subst ex; subst ey; exact vbring_c a b m w ha hb hm
end Go.Proofs.YtgdcphmmehedoaaGreat.Fx
/- The statements' own anchor of layer 3. -/
namespace Go.Proofs.YtgdcphmmehedoaaGreat.Fx
open Go.ChangeShapes Go.WideShapes Go.ChangeAt Go.RowKit
set_option linter.unusedVariables false
end Go.Proofs.YtgdcphmmehedoaaGreat.Fx
/- VecBrings: the walk. -/
namespace Go.Proofs.YtgdcphmmehedoaaGreat.Fx
open Go.ChangeShapes Go.WideShapes Go.ChangeAt Go.RowKit
set_option linter.unusedVariables false
theorem bring_is (a b c r : Int) (w : World) (ha : I64 a) (hb : I64 b) (hc : I64 c) (e : bringF a b c = r) : Calls Tryz.prog 82 #[.int .i64 a, .int .i64 b, .int .i64 c] w fun e w' => e = .returned (.int .i64 r) ∧ w = w' := by subst e; exact bring_c a b c w ha hb hc
theorem bring_around {a m : Int} (ha : I64 a) (h0 : 0 ≤ m) (h1 : m ≤ 9223372036854775807) : -m ≤ bringF a (-m) m ∧ bringF a (-m) m ≤ m ∧ bringF (bringF a (-m) m) (-m) m = bringF a (-m) m := by
 have h2 := cl_bd ha
 unfold L M at h2
 have e1 : cl (-m) = -m := cl_id (by omega)
 have e2 : cl m = m := cl_id (by omega)
 have h : -m ≤ bringF a (-m) m ∧ bringF a (-m) m ≤ m := by unfold bringF; rw [e1, e2]; (repeat' split) <;> omega
 refine ⟨h.1, h.2, ?_⟩
 generalize bringF a (-m) m = x at h
 unfold bringF; rw [e1, e2, cl_id (by omega)]; (repeat' split) <;> omega
theorem negF_in {a : Int} (h : -9223372036854775807 ≤ a) : negF a = -a := by unfold negF; rw [cl_id h]
end Go.Proofs.YtgdcphmmehedoaaGreat.Fx
/- VecAdds: the walk. -/
namespace Go.Proofs.YtgdcphmmehedoaaGreat.Fx
open Go.ChangeShapes Go.WideShapes Go.ChangeAt Go.RowKit
set_option linter.unusedVariables false
end Go.Proofs.YtgdcphmmehedoaaGreat.Fx
/- VecLaws: the walk. -/
namespace Go.Proofs.YtgdcphmmehedoaaGreat.Fx
open Go.ChangeShapes Go.WideShapes Go.ChangeAt Go.RowKit
set_option linter.unusedVariables false
def Sx (a : Int) : Prop := -17592186044416 ≤ a ∧ a ≤ 17592186044416
end Go.Proofs.YtgdcphmmehedoaaGreat.Fx
/- VecUnits: the walk. -/
namespace Go.Proofs.YtgdcphmmehedoaaGreat.Fx
open Go.ChangeShapes Go.WideShapes Go.ChangeAt Go.RowKit
set_option linter.unusedVariables false
end Go.Proofs.YtgdcphmmehedoaaGreat.Fx
/- VecLens: the walk. -/
namespace Go.Proofs.YtgdcphmmehedoaaGreat.Fx
open Go.ChangeShapes Go.WideShapes Go.ChangeAt Go.RowKit
set_option linter.unusedVariables false
end Go.Proofs.YtgdcphmmehedoaaGreat.Fx