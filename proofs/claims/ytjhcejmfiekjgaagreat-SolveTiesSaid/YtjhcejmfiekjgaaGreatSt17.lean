/- MassE MassF MassG MassH OtM OtA -/
import Derived.Test.YtjhcejmfiekjgaaGreatSt0
import Derived.Test.YtjhcejmfiekjgaaGreatSt1
import Derived.Test.YtjhcejmfiekjgaaGreatSt2
import Derived.Test.YtjhcejmfiekjgaaGreatSt3
import Derived.Test.YtjhcejmfiekjgaaGreatSt4
import Derived.Test.YtjhcejmfiekjgaaGreatSt16
import Derived.RangeFuncNested
import Derived.RangeFuncBound
import Derived.RangeFuncCalls
import Derived.RangeFuncLeaves
import Derived.Shelf.Abstract
import Derived.Shelf.RegionOpen
import Derived.WalkKit
import Derived.OwnWalkIn
import Derived.TacticsInMore
import Derived.LoopNIn
import Derived.LoopIn
import Derived.WalkLawsBesides
set_option maxRecDepth 100000
set_option maxHeartbeats 64000000
/- The iterator of package mass: each corner and the next one. -/
namespace Go.Proofs.YtjhcejmfiekjgaaGreat.Fx
open Go.ChangeShapes Go.WideShapes Go.ChangeAt Go.RowKit
set_option linter.unusedVariables false
attribute [local go_sem] Oper.semAt_some
def KeepB (n₀ B : Nat) (W W' : World) : Prop := Below n₀ W W' ∧ W'.heap[B]? = W.heap[B]?
theorem KeepB.t {n₀ B : Nat} {X Y Z : World} (h : KeepB n₀ B X Y) (k : KeepB n₀ B Y Z) : KeepB n₀ B X Z := ⟨h.1.trans k.1, k.2.trans h.2⟩
theorem KeepB.cell {n₀ B : Nat} {X Y : World} (h : KeepB n₀ B X Y) (i : Nat) : Y.cell? ⟨B, i, none⟩ = X.cell? ⟨B, i, none⟩ := World.cell?_of_block h.2
theorem KeepB.rfl_ (n₀ B : Nat) (W : World) : KeepB n₀ B W W := ⟨Below.refl _ _, rfl⟩
theorem sides1_in (F : Fence) (n : Nat) (hf : F.fn 131) (hro : F.round = none) (hn : 1 ≤ n) (l Bs n₀ b off len cap : Nat) (f : Cs) (h0 : 0 < len) (h8 : len ≤ 8) (hb : b < n₀) (J Jx : List Nat → World → Prop)
  (W : World) (hn₀ : n₀ ≤ W.heap.size) (hBs' : Bs < W.heap.size) (hJ : AbidesFrom W.heap.size J)
  (hY : ∀ pre x W1, J pre W1 → pre.length < len → YieldAt F (n - 1) Tryz.prog l #[vecV (f (x % len)).1 (f (x % len)).2, vecV (f ((x + 1) % len)).1 (f ((x + 1) % len)).2] W1 fun e W' =>
   (e = .returned (.bool true) ∧ J (pre ++ [x]) W' ∧ KeepB n₀ Bs W1 W') ∨ (e = .returned (.bool false) ∧ Jx (pre ++ [x]) W'))
  (hBs : W.cell? ⟨Bs, 0, none⟩ = some (.slice (some ⟨b, off, none⟩) len cap)) (hP : Pts W b off len f) (hj : J [] W) :
  CallsIn F n Tryz.prog 131 #[.func (.yield l) #[] #[], .pointer (some ⟨Bs, 0, none⟩)] W fun e W' => (∃ v, e = .returned v) ∧
   ((∃ ys, ys = List.range len ∧ J ys W') ∨ (∃ pre, (∃ k, k ≤ len ∧ pre = List.range k) ∧ Jx pre W')) := by
 have HP := hid hP
 clear hP
 have HB := hid hBs
 refine callsIn_of_wp Tryz.func131 rfl hf ?_ hro
 simp only [Tryz.ntmps131, List.size_toArray, List.length_cons, List.length_nil, Nat.reduceAdd, Nat.reduceSub, Array.replicate_succ, Array.replicate_zero, List.push_toArray, List.append_toArray, List.nil_append, List.cons_append]
 gi_wp2
 clear hBs
 gi_loopw [7] (fun i wr => ∃ k : Nat, k ≤ len ∧ i = .int .i64 k ∧ Hid (J (List.range k) wr ∧ KeepB n₀ Bs W wr))
  (fun i _ => len - (intOf i).toNat)
 case atStart => exact ⟨0, Nat.zero_le _, rfl, hj, KeepB.rfl_ _ _ _⟩
 case round =>
  obtain ⟨k, hk, rfl, HT⟩ := hrel
  by_cases hlt : k < len
  ·obtain ⟨j, ej⟩ : ∃ j, (k + 1) % len = j := ⟨_, rfl⟩
   have hjl : j < len := by rw [← ej]; exact Nat.mod_lt _ h0
   have hm : ((k : Int) + 1).tmod (len : Int) = (j : Int) := by
    rw [Int.tmod_eq_emod_of_nonneg (by omega), ← ej, Int.natCast_emod, Int.natCast_add]
    rfl
   have c0 : wr.cell? ⟨b, off + k * 2, none⟩ = some (.int .i64 (f k).1) := (HT.out.2.1.cell (p := ⟨b, _, none⟩) hb).trans (HP.out k hlt).1
   have c1 : wr.cell? ⟨b, off + k * 2 + 1, none⟩ = some (.int .i64 (f k).2) := (HT.out.2.1.cell (p := ⟨b, _, none⟩) hb).trans (HP.out k hlt).2
   have d0 : wr.cell? ⟨b, off + j * 2, none⟩ = some (.int .i64 (f j).1) := (HT.out.2.1.cell (p := ⟨b, _, none⟩) hb).trans (HP.out j hjl).1
   have d1 : wr.cell? ⟨b, off + j * 2 + 1, none⟩ = some (.int .i64 (f j).2) := (HT.out.2.1.cell (p := ⟨b, _, none⟩) hb).trans (HP.out j hjl).2
   have zB : wr.cell? ⟨Bs, 0, none⟩ = some (.slice (some ⟨b, off, none⟩) len cap) := (HT.out.2.cell 0).trans HB.out
   have hsz : W.heap.size ≤ wr.heap.size := HT.out.2.1.size
   gi_wp2
   obtain ⟨W1, eW⟩ : ∃ W1, W1 = wr.alloc (.cells #[.int .i64 (f k).1, .int .i64 (f k).2] 26) := ⟨_, rfl⟩
   have g1 : wr.grownBy W1 none := by rw [eW]; exact World.grownBy_alloc _ _ _
   have hk1 : KeepB n₀ Bs W W1 := HT.out.2.t ⟨by rw [eW]; exact (Below.refl _ _).alloc (by omega) _, by rw [eW]; exact Below.heap_alloc _ _ _ (by omega)⟩
   have c0' : W1.cell? ⟨wr.heap.size, 0, none⟩ = some (.int .i64 (f k).1) := by rw [eW]; go_simp
   have c1' : W1.cell? ⟨wr.heap.size, 1, none⟩ = some (.int .i64 (f k).2) := by rw [eW]; go_simp
   have zB' : W1.cell? ⟨Bs, 0, none⟩ = some (.slice (some ⟨b, off, none⟩) len cap) := by rw [eW]; exact cell_more zB
   have d0' : W1.cell? ⟨b, off + j * 2, none⟩ = some (.int .i64 (f j).1) := by rw [eW]; exact cell_more d0
   have d1' : W1.cell? ⟨b, off + j * 2 + 1, none⟩ = some (.int .i64 (f j).2) := by rw [eW]; exact cell_more d1
   have HK := hid hk1
   have HG := hid g1
   have HJ := hid (hJ _ _ _ _ HT.out.1 g1 (by simp))
   rw [← eW]
   clear eW hk1 g1 c0 c1 d0 d1 zB
   refine regIn_drawn_tail 10 (by kernel_rfl) (by kernel_rfl) (by kernel_rfl) ?_
   simp only [List.take_succ_cons, List.take_zero, List.drop_succ_cons, List.drop_zero]
   repeat (gi_big_quiet_step (fail))
   refine wpQuietIn_nil ?_
   rintro W2 ⟨q, rfl⟩
   have HJ2 := hJ _ _ (W1.drewN q) none HJ.out ⟨rfl, rfl, rfl, Nat.le_refl _, fun _ _ _ => rfl⟩ (by simp)
   obtain ⟨fn, tmps, assign, body, hy, hR⟩ := hY (List.range k) k (W1.drewN q) HJ2 (by rw [List.length_range]; exact hlt)
   rw [Nat.mod_eq_of_lt hlt, ej] at hy
   have HR := hid hR
   clear hR HJ2
   gi_wp2
   refine HR.out.mono ?_
   rintro e W3 (⟨rfl, hJ3, hk3⟩ | ⟨rfl, hJx3⟩)
   ·have HJ3 := hid hJ3
    have HK3 := hid hk3
    clear hJ3 hk3
    gi_wp2
    go_roundw
    case rel => exact ⟨k + 1, by omega, by simp, by rw [List.range_succ]; exact HJ3.out, HK.out.t (KeepB.t (Y := W1.drewN q) ⟨⟨rfl, rfl, rfl, Nat.le_refl _, fun _ _ => rfl⟩, rfl⟩ HK3.out)⟩
    case measure => simp [intOf]; omega
   ·gi_wp2
    refine bodyPost_ret (results_none rfl _ _ _) rfl ?_
    exact ⟨⟨_, rfl⟩, .inr ⟨_, ⟨k + 1, by omega, List.range_succ.symm⟩, hJx3⟩⟩
  ·obtain rfl : k = len := by omega
   gi_wp2
   go_end0
   exact ⟨⟨_, rfl⟩, .inl ⟨_, rfl, HT.out.1⟩⟩
abbrev cornersAt (f : Cs) (n x : Nat) : Array Value := #[vecV (f (x % n)).1 (f (x % n)).2, vecV (f ((x + 1) % n)).1 (f ((x + 1) % n)).2]
theorem sides1_stops (F : Fence) (n : Nat) (hf : F.fn 131) (hro : F.round = none) (hn : 1 ≤ n) (Bs n₀ b off len cap : Nat) (f : Cs) (h0 : 0 < len) (h8 : len ≤ 8) (w : World) (hBs' : Bs < w.heap.size) (hn₀ : n₀ ≤ w.heap.size) (hb : b < n₀)
  (hBs : w.cell? ⟨Bs, 0, none⟩ = some (.slice (some ⟨b, off, none⟩) len cap)) (hP : Pts w b off len f) :
  SeqStopsK F n Tryz.prog 131 #[.pointer (some ⟨Bs, 0, none⟩)] (cornersAt f len) (KeepB n₀ Bs) (fun ys => ys = List.range len) (fun pre => ∃ k, k ≤ len ∧ pre = List.range k) len w := fun l J Jx W hW hJ _ hY hj =>
 sides1_in F n hf hro hn l Bs n₀ b off len cap f h0 h8 hb J Jx W (by have := hW.size; omega) (by have := hW.size; omega) hJ hY ((hW.cell (p := ⟨Bs, 0, none⟩) hBs').trans hBs)
  (fun i hi => ⟨(hW.cell (p := ⟨b, _, none⟩) (by simp only []; omega)).trans (hP i hi).1, (hW.cell (p := ⟨b, _, none⟩) (by simp only []; omega)).trans (hP i hi).2⟩) hj
theorem sides_in (F : Fence) (n : Nat) (hf : F.fn 107) (hro : F.round = none) (a : Option Addr) (len cap : Nat) (w : World) :
  CallsIn F n Tryz.prog 107 #[.slice a len cap] w fun e w' => e = .returned (.func (.func 131) #[] #[.pointer (some ⟨w.heap.size, 0, none⟩)]) ∧ w' = w.alloc (.cells #[.slice a len cap] 39) := by
 refine callsIn_of_wp Tryz.func107 rfl hf ?_ hro
 simp only [Tryz.ntmps107, List.size_toArray, List.length_cons, List.length_nil, Nat.reduceAdd, Nat.reduceSub, Array.replicate_succ, Array.replicate_zero, List.push_toArray, List.append_toArray, List.nil_append, List.cons_append]
 gi_wp2
 go_ret
 exact ⟨rfl, rfl⟩
theorem KeepB.b {n₀ B : Nat} {w : World} (hn : n₀ ≤ w.heap.size) (hB : B < w.heap.size) (W : World) (l : Nat) (o o' : Obj) (hl : w.heap.size ≤ l) (h : W.heap[l]? = some o) (h1 : o.isCells = false) (h2 : o.isWalk = false) : KeepB n₀ B W (W.putObj l o') :=
 ⟨belowK_b hn W l o o' hl h h1 h2, by have := belowK_b (n₀ := w.heap.size) (Nat.le_refl _) W l o o' hl h h1 h2; exact this.block B hB⟩
theorem keepsFrom_of_below {B : Nat} {W W' : World} (h : Below W.heap.size W W') : KeepsFrom B W W' :=
 ⟨h.size, fun k o _ hk _ => (h.block k (Array.getElem?_eq_some_iff.1 hk).1).trans hk⟩
end Go.Proofs.YtjhcejmfiekjgaaGreat.Fx
/- Area of package mass. -/
namespace Go.Proofs.YtjhcejmfiekjgaaGreat.Fx
open Go.ChangeShapes Go.WideShapes Go.ChangeAt Go.RowKit
set_option linter.unusedVariables false
attribute [local go_sem] Oper.semAt_some
def sumC (T : Int × Int → Int × Int → Int) (f : Cs) (n : Nat) (l : List Nat) : Int := l.foldl (fun s k => addF s (T (f (k % n)) (f ((k + 1) % n)))) 0
theorem sumC_snoc (T : Int × Int → Int × Int → Int) (f : Cs) (n : Nat) (l : List Nat) (x : Nat) : sumC T f n (l ++ [x]) = addF (sumC T f n l) (T (f (x % n)) (f ((x + 1) % n))) := by simp [sumC]
theorem sumC_range (T : Int × Int → Int × Int → Int) (f : Cs) (n : Nat) : ∀ m, m ≤ n → sumC T f n (List.range m) = sumT T f n m
 | 0, _ => rfl
 | m + 1, h => by rw [List.range_succ, sumC_snoc, sumC_range T f n m (by omega), Nat.mod_eq_of_lt (show m < n by omega)]; rfl
theorem Has.owned {X Y : World} {g : Nat} {t : TypeId} {cs : Array Value} {row : Option Nat} (h : Has X g t cs) (hg : X.grownBy Y row) (hr : ∀ r, row = some r → ∃ o : Obj, X.heap[r]? = some o ∧ o.isCells = false) : Has Y g t cs :=
 (hg.block g h.here (fun e => by
  obtain ⟨o, ho, hc⟩ := hr g e.symm
  obtain rfl := Option.some.inj (ho.symm.trans h)
  cases hc)).trans h
theorem sumC_i64 (T : Int × Int → Int × Int → Int) (f : Cs) (n : Nat) (l : List Nat) : I64 (sumC T f n l) := by
 rcases List.eq_nil_or_concat l with rfl | ⟨l', x, rfl⟩
 ·unfold sumC I64; simp
 ·rw [List.concat_eq_append, sumC_snoc]; exact i64_add _ _
theorem wide_fn (k : Nat) : Fence.wide.fn k = True := rfl
attribute [local go_sem] wide_fn
theorem area_is (K R : Int) (b off n cap : Nat) (f : Cs) (w : World) (hK : K ≠ 1) (h0 : 0 < n) (h8 : n ≤ 8) (hP : Pts w b off n f) (hi : Cin f n) :
  Calls Tryz.prog 71 #[shapeV K R (.slice (some ⟨b, off, none⟩) n cap)] w fun e w' => e = .returned (.int .i64 (sumT areaT f n n)) ∧ Below w.heap.size w w' := by
 have HP := hid hP
 have HI := hid hi
 have hb : b < w.heap.size := World.block_lt_of_cell? _ _ (hP 0 h0).1
 have HB := hid hb
 clear hP hi hb
 refine (callsIn_wide (n := 6)).1 ?_
 refine callsIn_of_wp_marks Tryz.func71 rfl trivial ?_ rfl
 simp only [Tryz.ntmps71, List.size_toArray, List.length_cons, List.length_nil, Nat.reduceAdd, Nat.reduceSub, Array.replicate_succ, Array.replicate_zero, List.push_toArray, List.append_toArray, List.nil_append, List.cons_append]
 gi_wp2_with (gi_at_call 107; refine (sides_in Fence.wide _ trivial rfl _ _ _ _).mono ?_; rintro e w' ⟨rfl, rfl⟩)
 obtain ⟨W0, hW0⟩ : ∃ W0, W0 = ((w.alloc (.cells #[.int .i64 K, .int .i64 R, .slice (some ⟨b, off, none⟩) n cap] 41)).alloc (.cells #[.int .i64 0] 24)).alloc (.cells #[.slice (some ⟨b, off, none⟩) n cap] 39) := ⟨_, rfl⟩
 have bS : Boxed W0 (w.heap.size + 1) 24 (.int .i64 0) := by
  rw [hW0]
  have := (Boxed.new (w.alloc (.cells #[.int .i64 K, .int .i64 R, .slice (some ⟨b, off, none⟩) n cap] 41)) 24 (.int .i64 0)).alloc (.cells #[.slice (some ⟨b, off, none⟩) n cap] 39)
  rwa [World.size_alloc] at this
 have bN : Boxed W0 (w.heap.size + 1 + 1) 39 (.slice (some ⟨b, off, none⟩) n cap) := by
  rw [hW0]
  have := Boxed.new ((w.alloc (.cells #[.int .i64 K, .int .i64 R, .slice (some ⟨b, off, none⟩) n cap] 41)).alloc (.cells #[.int .i64 0] 24)) 39 (.slice (some ⟨b, off, none⟩) n cap)
  rwa [World.size_alloc, World.size_alloc] at this
 have hB0 : Below w.heap.size w W0 := by
  rw [hW0]
  exact (((Below.refl _ w).alloc (Nat.le_refl _) _).alloc (by simp) _).alloc (by simp; omega) _
 have hsz : W0.heap.size = w.heap.size + 3 := by rw [hW0]; simp
 have P0 : Pts W0 b off n f := fun i hi => ⟨Below.reads hB0 (HP.out i hi).1, Below.reads hB0 (HP.out i hi).2⟩
 rw [← hW0]
 clear hW0
 refine wpIn_rangeFunc_ownH rfl (by omega) (gf := 131) (lb := #[.pointer (some ⟨w.heap.size + 1 + 1, 0, none⟩)]) rfl trivial (enters_of Tryz.func131 (by kernel_rfl) rfl)
  (sides1_stops Fence.wide _ trivial rfl (by omega) (w.heap.size + 1 + 1) w.heap.size b off n cap f h0 h8 W0 (by omega) (by omega) HB.out bN.cell P0) KeepB.t (KeepB.b (by omega) (by omega)) (Below.refl _ _) (fun _ => rfl)
  (fun pre W => (Boxed W (w.heap.size + 1) 24 (.int .i64 (sumC areaT f n pre)) ∧ w.heap.size + 1 + 1 < W.heap.size) ∧ Below w.heap.size w W)
  (fun _ _ _ => False)
  (OwnFrom.and (OwnFrom.and (Own.from (boxed_own _ _ _) _) (fun _ _ _ _ hs hg _ => Nat.lt_of_lt_of_le hs hg.size)) (ownFrom_below (Nat.le_refl _) (by omega)))
  (fun _ _ _ _ _ hs _ _ => hs)
  ⟨⟨bS, by omega⟩, hB0⟩
  (fun x a' W => ∃ Ba Bb, w.heap.size + 1 + 1 < Ba ∧ w.heap.size + 1 + 1 < Bb ∧ Has W Ba 26 #[.int .i64 (f (x % n)).1, .int .i64 (f (x % n)).2] ∧ Has W Bb 26 #[.int .i64 (f ((x + 1) % n)).1, .int .i64 (f ((x + 1) % n)).2] ∧
   a' = { tmps := #[shapeV K R (.slice (some ⟨b, off, none⟩) n cap), .pointer (some ⟨w.heap.size, 0, none⟩), .int .i64 0, .pointer (some ⟨w.heap.size + 1, 0, none⟩), .pointer (some ⟨Ba, 0, none⟩), .pointer (some ⟨Bb, 0, none⟩), .pointer (some ⟨w.heap.size, 0, none⟩), .int .i64 K, .bool false, undef, undef, undef, undef, undef, undef, .pointer (some ⟨w.heap.size, 2, none⟩), .slice (some ⟨b, off, none⟩) n cap, .func (.func 131) #[] #[.pointer (some ⟨w.heap.size + 1 + 1, 0, none⟩)], vecV (f (x % n)).1 (f (x % n)).2, vecV (f ((x + 1) % n)).1 (f ((x + 1) % n)).2, undef, undef, undef, undef, undef, undef, undef, undef], defers := [] })
  (fun x a' _ X Y row hs hg hr => by
   obtain ⟨Ba, Bb, h1, h2, h3, h4, h5⟩ := hs
   exact ⟨Ba, Bb, h1, h2, h3.owned hg (fun r e => (hr r e).2), h4.owned hg (fun r e => (hr r e).2), h5⟩)
  ?assign ?body ?done ?stop
 case assign =>
  rintro l pre x W K ⟨⟨bS1, bN1⟩, hB1⟩ hK
  gi_wp2
  have hsW := hB1.size
  have kA : Below W.heap.size W ((W.alloc (.cells #[.int .i64 (f (x % n)).1, .int .i64 (f (x % n)).2] 26)).alloc (.cells #[.int .i64 (f ((x + 1) % n)).1, .int .i64 (f ((x + 1) % n)).2] 26)) := ((Below.refl _ W).alloc (Nat.le_refl _) _).alloc (by simp) _
  have hS := bS1.lt
  refine hK _ _ (keepsFrom_of_below kA) ⟨kA.mono hsW, kA.block _ ?_⟩ ⟨⟨(bS1.alloc _).alloc _, Nat.lt_of_lt_of_le bN1 kA.size⟩, hB1.trans (kA.mono hsW)⟩ ⟨W.heap.size, W.heap.size + 1, ?_, ?_, (has_new W _ _).more _, ?_, rfl⟩
  ·omega
  ·omega
  ·omega
  ·have := has_new (W.alloc (.cells #[.int .i64 (f (x % n)).1, .int .i64 (f (x % n)).2] 26)) 26 #[.int .i64 (f ((x + 1) % n)).1, .int .i64 (f ((x + 1) % n)).2]
   rwa [World.size_alloc] at this
 case body =>
  rintro l pre x a' W hl ⟨r, hr⟩ ⟨⟨bS1, bN1⟩, hB1⟩ ⟨Ba, Bb, hBa, hBb, hA, hB, rfl⟩ hlt
  have hx : x % n < n := Nat.mod_lt _ h0
  have hy : (x + 1) % n < n := Nat.mod_lt _ h0
  obtain ⟨i0, i1⟩ := HI.out _ hx
  obtain ⟨i2, i3⟩ := HI.out _ hy
  have HX := hid (sumC_snoc areaT f n pre x)
  obtain ⟨S, eS⟩ : ∃ S, sumC areaT f n pre = S := ⟨_, rfl⟩
  obtain ⟨p, ep⟩ : ∃ p, f (x % n) = p := ⟨_, rfl⟩
  obtain ⟨q, eq⟩ : ∃ q, f ((x + 1) % n) = q := ⟨_, rfl⟩
  have iS : I64 S := by rw [← eS]; exact sumC_i64 areaT f n pre
  rw [eS, ep, eq] at HX
  rw [eS] at bS1
  rw [ep] at hA i0 i1
  rw [eq] at hB i2 i3
  simp only [ep, eq]
  have cS := bS1.cell
  have fS := bS1.frozen
  have a0 := hA.at_ 0
  have a1 := hA.at_ 1
  have b0 := hB.at_ 0
  have b1 := hB.at_ 1
  have io2 : I64 2 := by unfold I64; omega
  have EO2 := hid (show ofF 2 = 8589934592 by kernel_rfl)
  gi_wp2
  refine regIn_below_tail 7 (by kernel_rfl) (by kernel_rfl) (by kernel_rfl) ?_
  intro T hT fw hf
  have s0 := hf.reads cS
  have p0 := hf.reads a0
  have p1 := hf.reads a1
  have q0 := hf.reads b0
  have q1 := hf.reads b1
  simp only [List.take_succ_cons, List.take_zero, List.drop_succ_cons, List.drop_zero]
  repeat (gi_big_quiet_step ((first | (gi_at_call 38; with_reducible exact inRound l (hf.made (vcross_c _ _ _ _ _ i0 i1 i2 i3))) | (gi_at_call 29; with_reducible exact inRound l (hf.drawn (div_c _ _ _ (i64_sub _ _) (by unfold I64; omega)))) | (gi_at_call 33; with_reducible exact inRound l (hf.same (of_is 2 8589934592 _ io2 EO2.out))) | (gi_at_call 26; with_reducible exact inRound l (hf.same (add_c _ _ _ iS (i64_div _ _)))))))
  refine wpQuietIn_nil ?_
  intro w3 h3
  have k3 := hf.here h3
  have bS3 : Boxed w3 (w.heap.size + 1) 24 (.int .i64 S) := (k3.block _ bS1.lt).trans bS1
  have cS3 := bS3.cell
  have fS3 := bS3.frozen
  have k4 := (k3.mono hB1.size).setCell (p := ⟨w.heap.size + 1, 0, none⟩) (by simp) (.int .i64 (addF S (areaT p q)))
  have HK4 := hid k4
  have HK3 := hid k3
  have HB1 := hid hB1
  have HS3 := hid bS3
  have HN := hid bN1
  clear cS fS s0 p0 p1 q0 q1 hf h3 k4 k3 hB1 bS3 bS1 bN1
  gi_wp2
  refine ⟨(keepsFrom_of_below HK3.out).trans ((KeepsOthers.setCell _ _ _).from _), ⟨HK4.out, ?_⟩, ⟨?_, Nat.lt_of_lt_of_le HN.out HK4.out.size⟩, HB1.out.trans HK4.out⟩
  ·exact (Below.heap_setCell _ _ _ _ (by simp)).trans (HK3.out.block _ HN.out)
  ·rw [HX.out]
   exact HS3.out.set _
 case done =>
  rintro D ys W hD rfl ⟨⟨bS1, _⟩, hB1⟩ hK
  have cS := bS1.cell
  gi_wp2
  refine ⟨by simp, .inl ⟨_, _, rfl, run_takeDeferred hK, ?_⟩⟩
  exact ⟨_, results_tmp rfl _ _ _, by rw [sumC_range areaT f n n (Nat.le_refl n)]; rfl, hB1.trans (belowK_b (w := w) (Nat.le_refl _) W D _ _ (by omega) hK rfl rfl)⟩
 case stop =>
  rintro D c pre W _ _ h _
  exact h.elim
end Go.Proofs.YtjhcejmfiekjgaaGreat.Fx
/- Round of package mass, of a polygon. -/
namespace Go.Proofs.YtjhcejmfiekjgaaGreat.Fx
open Go.ChangeShapes Go.WideShapes Go.ChangeAt Go.RowKit
set_option linter.unusedVariables false
attribute [local go_sem] Oper.semAt_some wide_fn
theorem round_is (K R : Int) (b off n cap : Nat) (f : Cs) (w : World) (hK : K ≠ 1) (h0 : 0 < n) (h8 : n ≤ 8) (hP : Pts w b off n f) (hi : Cin f n) :
  Calls Tryz.prog 72 #[shapeV K R (.slice (some ⟨b, off, none⟩) n cap)] w fun e w' => e = .returned (.int .i64 (sumT roundT f n n)) ∧ Below w.heap.size w w' := by
 have HP := hid hP
 have HI := hid hi
 have hb : b < w.heap.size := World.block_lt_of_cell? _ _ (hP 0 h0).1
 have HB := hid hb
 clear hP hi hb
 refine (callsIn_wide (n := 6)).1 ?_
 refine callsIn_of_wp_marks Tryz.func72 rfl trivial ?_ rfl
 simp only [Tryz.ntmps72, List.size_toArray, List.length_cons, List.length_nil, Nat.reduceAdd, Nat.reduceSub, Array.replicate_succ, Array.replicate_zero, List.push_toArray, List.append_toArray, List.nil_append, List.cons_append]
 gi_wp2_with (gi_at_call 107; refine (sides_in Fence.wide _ trivial rfl _ _ _ _).mono ?_; rintro e w' ⟨rfl, rfl⟩)
 obtain ⟨W0, hW0⟩ : ∃ W0, W0 = ((w.alloc (.cells #[.int .i64 K, .int .i64 R, .slice (some ⟨b, off, none⟩) n cap] 41)).alloc (.cells #[.int .i64 0] 24)).alloc (.cells #[.slice (some ⟨b, off, none⟩) n cap] 39) := ⟨_, rfl⟩
 have bS : Boxed W0 (w.heap.size + 1) 24 (.int .i64 0) := by
  rw [hW0]
  have := (Boxed.new (w.alloc (.cells #[.int .i64 K, .int .i64 R, .slice (some ⟨b, off, none⟩) n cap] 41)) 24 (.int .i64 0)).alloc (.cells #[.slice (some ⟨b, off, none⟩) n cap] 39)
  rwa [World.size_alloc] at this
 have bN : Boxed W0 (w.heap.size + 1 + 1) 39 (.slice (some ⟨b, off, none⟩) n cap) := by
  rw [hW0]
  have := Boxed.new ((w.alloc (.cells #[.int .i64 K, .int .i64 R, .slice (some ⟨b, off, none⟩) n cap] 41)).alloc (.cells #[.int .i64 0] 24)) 39 (.slice (some ⟨b, off, none⟩) n cap)
  rwa [World.size_alloc, World.size_alloc] at this
 have hB0 : Below w.heap.size w W0 := by
  rw [hW0]
  exact (((Below.refl _ w).alloc (Nat.le_refl _) _).alloc (by simp) _).alloc (by simp; omega) _
 have hsz : W0.heap.size = w.heap.size + 3 := by rw [hW0]; simp
 have P0 : Pts W0 b off n f := fun i hi => ⟨Below.reads hB0 (HP.out i hi).1, Below.reads hB0 (HP.out i hi).2⟩
 rw [← hW0]
 clear hW0
 refine wpIn_rangeFunc_ownH rfl (by omega) (gf := 131) (lb := #[.pointer (some ⟨w.heap.size + 1 + 1, 0, none⟩)]) rfl trivial (enters_of Tryz.func131 (by kernel_rfl) rfl)
  (sides1_stops Fence.wide _ trivial rfl (by omega) (w.heap.size + 1 + 1) w.heap.size b off n cap f h0 h8 W0 (by omega) (by omega) HB.out bN.cell P0) KeepB.t (KeepB.b (by omega) (by omega)) (Below.refl _ _) (fun _ => rfl)
  (fun pre W => (Boxed W (w.heap.size + 1) 24 (.int .i64 (sumC roundT f n pre)) ∧ w.heap.size + 1 + 1 < W.heap.size) ∧ Below w.heap.size w W)
  (fun _ _ _ => False)
  (OwnFrom.and (OwnFrom.and (Own.from (boxed_own _ _ _) _) (fun _ _ _ _ hs hg _ => Nat.lt_of_lt_of_le hs hg.size)) (ownFrom_below (Nat.le_refl _) (by omega)))
  (fun _ _ _ _ _ hs _ _ => hs)
  ⟨⟨bS, by omega⟩, hB0⟩
  (fun x a' W => ∃ Ba Bb, w.heap.size + 1 + 1 < Ba ∧ w.heap.size + 1 + 1 < Bb ∧ Has W Ba 26 #[.int .i64 (f (x % n)).1, .int .i64 (f (x % n)).2] ∧ Has W Bb 26 #[.int .i64 (f ((x + 1) % n)).1, .int .i64 (f ((x + 1) % n)).2] ∧
   a' = { tmps := #[shapeV K R (.slice (some ⟨b, off, none⟩) n cap), .pointer (some ⟨w.heap.size, 0, none⟩), .int .i64 0, .pointer (some ⟨w.heap.size + 1, 0, none⟩), .pointer (some ⟨Ba, 0, none⟩), .pointer (some ⟨Bb, 0, none⟩), undef, .pointer (some ⟨w.heap.size, 0, none⟩), .int .i64 K, .bool false, undef, undef, undef, undef, undef, undef, undef, undef, undef, undef, .pointer (some ⟨w.heap.size, 2, none⟩), .slice (some ⟨b, off, none⟩) n cap, .func (.func 131) #[] #[.pointer (some ⟨w.heap.size + 1 + 1, 0, none⟩)], vecV (f (x % n)).1 (f (x % n)).2, vecV (f ((x + 1) % n)).1 (f ((x + 1) % n)).2, undef, undef, undef, undef, undef, undef, undef, undef, undef, undef, undef, undef, undef, undef, undef, undef, undef, undef, undef, undef, undef], defers := [] })
  (fun x a' _ X Y row hs hg hr => by
   obtain ⟨Ba, Bb, h1, h2, h3, h4, h5⟩ := hs
   exact ⟨Ba, Bb, h1, h2, h3.owned hg (fun r e => (hr r e).2), h4.owned hg (fun r e => (hr r e).2), h5⟩)
  ?assign ?body ?done ?stop
 case assign =>
  rintro l pre x W K ⟨⟨bS1, bN1⟩, hB1⟩ hK
  gi_wp2
  have hsW := hB1.size
  have kA : Below W.heap.size W ((W.alloc (.cells #[.int .i64 (f (x % n)).1, .int .i64 (f (x % n)).2] 26)).alloc (.cells #[.int .i64 (f ((x + 1) % n)).1, .int .i64 (f ((x + 1) % n)).2] 26)) := ((Below.refl _ W).alloc (Nat.le_refl _) _).alloc (by simp) _
  have hS := bS1.lt
  refine hK _ _ (keepsFrom_of_below kA) ⟨kA.mono hsW, kA.block _ ?_⟩ ⟨⟨(bS1.alloc _).alloc _, Nat.lt_of_lt_of_le bN1 kA.size⟩, hB1.trans (kA.mono hsW)⟩ ⟨W.heap.size, W.heap.size + 1, ?_, ?_, (has_new W _ _).more _, ?_, rfl⟩
  ·omega
  ·omega
  ·omega
  ·have := has_new (W.alloc (.cells #[.int .i64 (f (x % n)).1, .int .i64 (f (x % n)).2] 26)) 26 #[.int .i64 (f ((x + 1) % n)).1, .int .i64 (f ((x + 1) % n)).2]
   rwa [World.size_alloc] at this
 case body =>
  rintro l pre x a' W hl ⟨r, hr⟩ ⟨⟨bS1, bN1⟩, hB1⟩ ⟨Ba, Bb, hBa, hBb, hA, hB, rfl⟩ hlt
  have hx : x % n < n := Nat.mod_lt _ h0
  have hy : (x + 1) % n < n := Nat.mod_lt _ h0
  obtain ⟨i0, i1⟩ := HI.out _ hx
  obtain ⟨i2, i3⟩ := HI.out _ hy
  have HX := hid (sumC_snoc roundT f n pre x)
  obtain ⟨S, eS⟩ : ∃ S, sumC roundT f n pre = S := ⟨_, rfl⟩
  obtain ⟨p, ep⟩ : ∃ p, f (x % n) = p := ⟨_, rfl⟩
  obtain ⟨q, eq⟩ : ∃ q, f ((x + 1) % n) = q := ⟨_, rfl⟩
  have iS : I64 S := by rw [← eS]; exact sumC_i64 roundT f n pre
  rw [eS, ep, eq] at HX
  rw [eS] at bS1
  rw [ep] at hA i0 i1
  rw [eq] at hB i2 i3
  simp only [ep, eq]
  obtain ⟨p0, p1⟩ := p
  obtain ⟨q0, q1⟩ := q
  simp only [] at i0 i1 i2 i3 hA hB ⊢
  obtain ⟨u, eu⟩ : ∃ u, addF (mulF p0 p0) (mulF p1 p1) = u := ⟨_, rfl⟩
  obtain ⟨v, ev⟩ : ∃ v, addF (mulF p0 q0) (mulF p1 q1) = v := ⟨_, rfl⟩
  obtain ⟨z, ez⟩ : ∃ z, addF (mulF q0 q0) (mulF q1 q1) = z := ⟨_, rfl⟩
  obtain ⟨d, ed⟩ : ∃ d, addF (addF u v) z = d := ⟨_, rfl⟩
  obtain ⟨c, ec⟩ : ∃ c, subF (mulF p0 q1) (mulF p1 q0) = c := ⟨_, rfl⟩
  obtain ⟨m, em⟩ : ∃ m, mulF c d = m := ⟨_, rfl⟩
  obtain ⟨t, et⟩ : ∃ t, divF m 51539607552 = t := ⟨_, rfl⟩
  obtain ⟨S1, eS1⟩ : ∃ s, addF S t = s := ⟨_, rfl⟩
  have ru : Rg u := by rw [← eu]; exact rg_add _ _
  have rv : Rg v := by rw [← ev]; exact rg_add _ _
  have rz : Rg z := by rw [← ez]; exact rg_add _ _
  have id_ : I64 d := by rw [← ed]; exact i64_add _ _
  have ic : I64 c := by rw [← ec]; exact i64_sub _ _
  have im : I64 m := by rw [← em]; exact i64_mul _ _
  have it : I64 t := by rw [← et]; exact i64_div _ _
  have iG : I64 51539607552 := by unfold I64; omega
  have i12 : I64 12 := by unfold I64; omega
  have EO := hid (show ofF 12 = 51539607552 by kernel_rfl)
  have hS1 : addF S (roundT (p0, p1) (q0, q1)) = S1 := by rw [← eS1, ← et, ← em, ← ec, ← ed, ← ez, ← ev, ← eu]; rfl
  rw [hS1] at HX
  have EU := hid eu
  have EV := hid ev
  have EZ := hid ez
  have ED := hid ed
  have EC := hid ec
  have EM := hid em
  have ET := hid et
  have ES := hid eS1
  clear eu ev ez ed ec em et eS1 hS1 ep eq eS
  have cS := bS1.cell
  have a0 := hA.at_ 0
  have a1 := hA.at_ 1
  have b0 := hB.at_ 0
  have b1 := hB.at_ 1
  simp at a0 a1 b0 b1
  have HBS := hid bS1
  have HBN := hid bN1
  have HB1 := hid hB1
  clear bS1 bN1 hB1 hA hB
  gi_wp2
  refine regIn_below_tail 9 (by kernel_rfl) (by kernel_rfl) (by kernel_rfl) ?_
  intro T hT fw hf
  have x0 := hf.reads a0
  have x1 := hf.reads a1
  have y0 := hf.reads b0
  have y1 := hf.reads b1
  simp only [List.take_succ_cons, List.take_zero, List.drop_succ_cons, List.drop_zero]
  repeat (gi_big_quiet_step ((gi_at_call 36; with_reducible first | exact inRound l (hf.made (vdot_is _ _ _ _ _ _ (by assumption) (by assumption) (by assumption) (by assumption) EU.out)) | exact inRound l (hf.made (vdot_is _ _ _ _ _ _ (by assumption) (by assumption) (by assumption) (by assumption) EV.out)) | exact inRound l (hf.made (vdot_is _ _ _ _ _ _ (by assumption) (by assumption) (by assumption) (by assumption) EZ.out)))))
  refine wpQuietIn_nil ?_
  intro w3 h3
  have k3 := hf.here h3
  have cS := Below.reads k3 cS
  have a0 := Below.reads k3 a0
  have a1 := Below.reads k3 a1
  have b0 := Below.reads k3 b0
  have b1 := Below.reads k3 b1
  have HK3 := hid k3
  clear x0 x1 y0 y1 hf h3 k3
  gi_wp2_with fail
  obtain ⟨W1, eW⟩ : ∃ W1, W1 = w3.alloc (.cells #[.int .i64 u, .int .i64 v, .int .i64 z] 24) := ⟨_, rfl⟩
  have hn : Has W1 w3.heap.size 24 #[.int .i64 u, .int .i64 v, .int .i64 z] := by rw [eW]; exact has_new _ _ _
  have k1 : Below W.heap.size W W1 := by rw [eW]; exact HK3.out.alloc HK3.out.size _
  have cS : W1.cell? ⟨w.heap.size + 1, 0, none⟩ = some (.int .i64 S) := by rw [eW]; exact cell_more cS
  have a0 : W1.cell? ⟨Ba, 0, none⟩ = some (.int .i64 p0) := by rw [eW]; exact cell_more a0
  have a1 : W1.cell? ⟨Ba, 1, none⟩ = some (.int .i64 p1) := by rw [eW]; exact cell_more a1
  have b0 : W1.cell? ⟨Bb, 0, none⟩ = some (.int .i64 q0) := by rw [eW]; exact cell_more b0
  have b1 : W1.cell? ⟨Bb, 1, none⟩ = some (.int .i64 q1) := by rw [eW]; exact cell_more b1
  have HK1 := hid k1
  rw [← eW]
  clear eW k1
  refine (inRound l (sum3_is w3.heap.size 3 u v z W1 ru rv rz (hn.at_ 0) (hn.at_ 1) (hn.at_ 2) d ED.out)).mono ?_
  rintro e w' ⟨rfl, rfl⟩
  clear hn
  gi_wp2_with fail
  refine regIn_below_tail 9 (by kernel_rfl) (by kernel_rfl) (by kernel_rfl) ?_
  intro T hT fw hf
  have s0 := hf.reads cS
  have x0 := hf.reads a0
  have x1 := hf.reads a1
  have y0 := hf.reads b0
  have y1 := hf.reads b1
  simp only [List.take_succ_cons, List.take_zero, List.drop_succ_cons, List.drop_zero]
  repeat (gi_big_quiet_step ((first | (gi_at_call 38; with_reducible exact inRound l (hf.made (vcross_is _ _ _ _ _ _ i0 i1 i2 i3 EC.out))) | (gi_at_call 12; with_reducible exact inRound l (hf.same (mul_is _ _ _ _ ic id_ EM.out))) | (gi_at_call 33; with_reducible exact inRound l (hf.same (of_is 12 51539607552 _ i12 EO.out))) | (gi_at_call 29; with_reducible exact inRound l (hf.drawn (div_is _ _ _ _ im iG ET.out))) | (gi_at_call 26; with_reducible exact inRound l (hf.same (add_is _ _ _ _ iS it ES.out))))))
  refine wpQuietIn_nil ?_
  intro w4 h4
  have k4 := HK1.out.trans ((hf.here h4).mono HK1.out.size)
  have bS4 : Boxed w4 (w.heap.size + 1) 24 (.int .i64 S) := (k4.block _ HBS.out.lt).trans HBS.out
  have cS4 := bS4.cell
  have fS4 := bS4.frozen
  have k5 := (k4.mono HB1.out.size).setCell (p := ⟨w.heap.size + 1, 0, none⟩) (by simp) (.int .i64 S1)
  have HK5 := hid k5
  have HK4 := hid k4
  have HS4 := hid bS4
  clear cS s0 x0 x1 y0 y1 hf h4 k4 k5 bS4 a0 a1 b0 b1
  gi_wp2_with fail
  refine ⟨(keepsFrom_of_below HK4.out).trans ((KeepsOthers.setCell _ _ _).from _), ⟨HK5.out, ?_⟩, ⟨?_, Nat.lt_of_lt_of_le HBN.out HK5.out.size⟩, HB1.out.trans HK5.out⟩
  ·exact (Below.heap_setCell _ _ _ _ (by simp)).trans (HK4.out.block _ HBN.out)
  ·rw [HX.out]
   exact HS4.out.set _
 case done =>
  rintro D ys W hD rfl ⟨⟨bS1, _⟩, hB1⟩ hK
  have cS := bS1.cell
  gi_wp2
  refine ⟨by simp, .inl ⟨_, _, rfl, run_takeDeferred hK, ?_⟩⟩
  exact ⟨_, results_tmp rfl _ _ _, by rw [sumC_range roundT f n n (Nat.le_refl n)]; rfl, hB1.trans (belowK_b (w := w) (Nat.le_refl _) W D _ _ (by omega) hK rfl rfl)⟩
 case stop =>
  rintro D c pre W _ _ h _
  exact h.elim
end Go.Proofs.YtjhcejmfiekjgaaGreat.Fx
/- Area and Round of package mass, of a circle; Of: what a body weighs. -/
namespace Go.Proofs.YtjhcejmfiekjgaaGreat.Fx
open Go.ChangeShapes Go.WideShapes Go.ChangeAt Go.RowKit
set_option linter.unusedVariables false
theorem area_circle (R r : Int) (ao : Option Addr) (n cap : Nat) (w : World) (hR : I64 R) (hr : areaC R = r) :
  Calls Tryz.prog 71 #[shapeV 1 R (.slice ao n cap)] w fun e w' => e = .returned (.int .i64 r) ∧ Made w.heap.size w w' := by
 obtain ⟨m, em⟩ : ∃ m, mulF R R = m := ⟨_, rfl⟩
 have im : I64 m := by rw [← em]; exact i64_mul _ _
 have iP : I64 13493037705 := by unfold I64; omega
 have EM := hid em
 have ER := hid (show mulF 13493037705 m = r by rw [← hr, ← em]; rfl)
 clear em hr
 go_enter Tryz.func71, Tryz.ntmps71
 go_wp2_with fail
 refine (mul_is R R m _ hR hR EM.out).mono ?_
 rintro e w' ⟨rfl, rfl⟩
 go_wp2_with fail
 refine (mul_is _ m r _ iP im ER.out).mono ?_
 rintro e w' ⟨rfl, rfl⟩
 go_wp2_with fail
 go_ret
 exact ⟨rfl, (Made.rfl_ _ _).cells (Nat.le_refl _) _ _⟩
theorem round_circle (R r : Int) (ao : Option Addr) (n cap : Nat) (w : World) (hR : I64 R) (hr : roundC R = r) :
  Calls Tryz.prog 72 #[shapeV 1 R (.slice ao n cap)] w fun e w' => e = .returned (.int .i64 r) ∧ Made w.heap.size w w' := by
 obtain ⟨m, em⟩ : ∃ m, mulF R R = m := ⟨_, rfl⟩
 obtain ⟨a, ea⟩ : ∃ a, areaC R = a := ⟨_, rfl⟩
 obtain ⟨p, ep⟩ : ∃ p, mulF a m = p := ⟨_, rfl⟩
 have im : I64 m := by rw [← em]; exact i64_mul _ _
 have ia : I64 a := by rw [← ea]; exact i64_mul _ _
 have ip : I64 p := by rw [← ep]; exact i64_mul _ _
 have iG : I64 8589934592 := by unfold I64; omega
 have i2 : I64 2 := by unfold I64; omega
 have EO := hid (show ofF 2 = 8589934592 by kernel_rfl)
 have ER := hid (show divF p 8589934592 = r by rw [← hr, ← ep, ← ea, ← em]; rfl)
 have EM := hid em
 have EA := hid ea
 have EP := hid ep
 clear em ea ep hr
 go_enter Tryz.func72, Tryz.ntmps72
 go_wp2_with fail
 refine reg_made (by kernel_rfl) (by kernel_rfl) ?_
 intro T hT fw hf
 have x0 := Class.reads hf (p := ⟨w.heap.size, 0, none⟩) (u := .int .i64 1) (by go_simp)
 have x1 := Class.reads hf (p := ⟨w.heap.size, 1, none⟩) (u := .int .i64 R) (by go_simp)
 have x2 := Class.reads hf (p := ⟨w.heap.size, 2, none⟩) (u := .slice ao n cap) (by go_simp)
 repeat (go_big_quiet_step ((first | (go_at_call 71; with_reducible exact hf.made (area_circle _ _ _ _ _ _ hR EA.out)) | (go_at_call 33; with_reducible exact hf.same (of_is 2 8589934592 _ i2 EO.out)) | (go_at_call 12; with_reducible first | exact hf.same (mul_is _ _ _ _ hR hR EM.out) | exact hf.same (mul_is _ _ _ _ ia im EP.out)) | (go_at_call 29; with_reducible exact hf.drawn (div_is _ _ _ _ ip iG ER.out)))))
 refine wpQuiet_nil ?_
 intro w3 h3
 have k3 := hf.here h3
 go_wp2_with fail
 go_ret
 exact ⟨rfl, made_box k3⟩
end Go.Proofs.YtjhcejmfiekjgaaGreat.Fx
/- Of of package mass, of any body. -/
namespace Go.Proofs.YtjhcejmfiekjgaaGreat.Fx
open Go.ChangeShapes Go.WideShapes Go.ChangeAt Go.RowKit
set_option linter.unusedVariables false
theorem of_static_any (p0 p1 p2 p3 p4 p5 p6 d K R : Int) (s : Value) (w : World) (hd : d ≤ 0) (A B : Int) :
  Calls Tryz.prog 37 #[bodyV p0 p1 p2 p3 p4 p5 p6 d K R s] w fun e w' => e = .returned (massOf d A B) ∧ Below w.heap.size w w' := by
 have hm := hid (show massOf d A B = massV 0 0 0 0 by unfold massOf; rw [if_pos hd])
 rw [hm.out]
 go_enter Tryz.func37, Tryz.ntmps37
 go_wp2_with fail
 obtain ⟨W, eW⟩ : ∃ W, W = (w.alloc (.cells (#[.int .i64 p0, .int .i64 p1, .int .i64 p2, .int .i64 p3, .int .i64 p4, .int .i64 p5, .int .i64 p6, .int .i64 d, .int .i64 K, .int .i64 R, s] : Array Value) 43)).alloc (.cells #[.int .i64 0, .int .i64 0, .int .i64 0, .int .i64 0] 96) := ⟨_, rfl⟩
 have hH : Has W (w.heap.size + 1) 96 #[.int .i64 0, .int .i64 0, .int .i64 0, .int .i64 0] := by rw [eW]; exact has_next _ _ _ _
 have k0 : Below w.heap.size w W := by rw [eW]; exact ((Below.refl _ w).alloc (Nat.le_refl _) _).alloc (by simp) _
 rw [← eW]
 have r0 := hH.at_ 0
 have r1 := hH.at_ 1
 have r2 := hH.at_ 2
 have r3 := hH.at_ 3
 exact bodyPost_ret (v := massV 0 0 0 0) (by simp [results, Tryz.results37, go_sem, r0, r1, r2, r3]) rfl ⟨rfl, k0⟩
theorem of_moves_any (p0 p1 p2 p3 p4 p5 p6 d K R : Int) (s : Value) (w : World) (id_ : I64 d) (hd : 0 < d) (A B : Int) (iA : I64 A) (iB : I64 B)
  (hA : ∀ v, Below w.heap.size w v → Calls Tryz.prog 71 #[shapeV K R s] v fun e w' => e = .returned (.int .i64 A) ∧ Below v.heap.size v w')
  (hB : ∀ v, Below w.heap.size w v → Calls Tryz.prog 72 #[shapeV K R s] v fun e w' => e = .returned (.int .i64 B) ∧ Below v.heap.size v w') :
  Calls Tryz.prog 37 #[bodyV p0 p1 p2 p3 p4 p5 p6 d K R s] w fun e w' => e = .returned (massOf d A B) ∧ Below w.heap.size w w' := by
 obtain ⟨a, ea⟩ : ∃ a, mulF d A = a := ⟨_, rfl⟩
 obtain ⟨b, eb⟩ : ∃ b, mulF d B = b := ⟨_, rfl⟩
 obtain ⟨m, em⟩ : ∃ m, max a 1 = m := ⟨_, rfl⟩
 obtain ⟨i, ei⟩ : ∃ i, max b 1 = i := ⟨_, rfl⟩
 obtain ⟨x, ex⟩ : ∃ x, divF 4294967296 m = x := ⟨_, rfl⟩
 obtain ⟨y, ey⟩ : ∃ y, divF 4294967296 i = y := ⟨_, rfl⟩
 have ia : I64 a := by rw [← ea]; exact i64_mul _ _
 have ib : I64 b := by rw [← eb]; exact i64_mul _ _
 have im : I64 m := by unfold I64 at *; omega
 have ii : I64 i := by unfold I64 at *; omega
 have i1 : I64 4294967296 := by unfold I64; omega
 have hm := hid (show massOf d A B = massV m i x y by unfold massOf; rw [if_neg (by omega), ea, eb, em, ei, ex, ey])
 rw [hm.out]
 have hle : decide (d ≤ 0) = false := by simp; omega
 have EA := hid ea
 have EB := hid eb
 have EX := hid ex
 have EY := hid ey
 have HA := hid hA
 have HB := hid hB
 clear ea eb ex ey hA hB hm
 go_enter Tryz.func37, Tryz.ntmps37
 go_wp2_with fail
 obtain ⟨W, eW⟩ : ∃ W, W = (w.alloc (.cells (#[.int .i64 p0, .int .i64 p1, .int .i64 p2, .int .i64 p3, .int .i64 p4, .int .i64 p5, .int .i64 p6, .int .i64 d, .int .i64 K, .int .i64 R, s] : Array Value) 43)).alloc (.cells #[.int .i64 0, .int .i64 0, .int .i64 0, .int .i64 0] 96) := ⟨_, rfl⟩
 have hH : Has W (w.heap.size + 1) 96 #[.int .i64 0, .int .i64 0, .int .i64 0, .int .i64 0] := by rw [eW]; exact has_next _ _ _ _
 have hG : Has W w.heap.size 43 #[.int .i64 p0, .int .i64 p1, .int .i64 p2, .int .i64 p3, .int .i64 p4, .int .i64 p5, .int .i64 p6, .int .i64 d, .int .i64 K, .int .i64 R, s] := by rw [eW]; exact (has_new _ _ _).more _
 have k0 : Below w.heap.size w W := by rw [eW]; exact ((Below.refl _ w).alloc (Nat.le_refl _) _).alloc (by simp) _
 rw [← eW]
 clear eW
 have c7 := hG.at_ 7
 have c8 := hG.at_ 8
 have c9 := hG.at_ 9
 have c10 := hG.at_ 10
 have K0 := hid k0
 have HH := hid hH
 simp at c7 c8 c9 c10
 clear k0 hH hG
 refine reg_below (by kernel_rfl) (by kernel_rfl) ?_
 intro T hT fw hf
 have z7 := hf.reads c7
 have z8 := hf.reads c8
 have z9 := hf.reads c9
 have z10 := hf.reads c10
 have hz := fun t => hf.below (x := t) (HA.out _ (K0.out.trans ((hf.1 t).mono K0.out.size)))
 have HZ := hid hz
 clear hz
 repeat (go_big_quiet_step ((first | (go_at_call 71; with_reducible exact HZ.out _) | (go_at_call 12; with_reducible exact hf.same (mul_is _ _ _ _ id_ iA EA.out)))))
 refine wpQuiet_nil ?_
 intro w3 h3
 have k3 := hf.here h3
 have c7 := Below.reads k3 c7
 have c8 := Below.reads k3 c8
 have c9 := Below.reads k3 c9
 have c10 := Below.reads k3 c10
 have K3 := hid (K0.out.trans (k3.mono K0.out.size))
 have HH3 := hid (HH.out.below k3 HH.out.here)
 clear z7 z8 z9 z10 HZ hf h3 k3 HH K0
 go_wp2_with fail
 refine reg_below (by kernel_rfl) (by kernel_rfl) ?_
 intro T hT fw hf
 have z7 := hf.reads c7
 have z8 := hf.reads c8
 have z9 := hf.reads c9
 have z10 := hf.reads c10
 have hz := fun t => hf.below (x := t) (HB.out _ (K3.out.trans ((hf.1 t).mono K3.out.size)))
 have HZ := hid hz
 clear hz
 repeat (go_big_quiet_step ((first | (go_at_call 72; with_reducible exact HZ.out _) | (go_at_call 12; with_reducible exact hf.same (mul_is _ _ _ _ id_ iB EB.out)))))
 refine wpQuiet_nil ?_
 intro w4 h4
 have k4 := hf.here h4
 have K4 := hid (K3.out.trans (k4.mono K3.out.size))
 have hH := HH3.out.below k4 HH3.out.here
 have r0 := hH.at_ 0
 have r1 := hH.at_ 1
 have r2 := hH.at_ 2
 have r3 := hH.at_ 3
 have m0 := hH.free 0
 have m1 := hH.free 1
 have m2 := hH.free 2
 have m3 := hH.free 3
 simp at r0 r1 r2 r3
 have HH4 := hid hH
 clear z7 z8 z9 z10 HZ hf h4 k4 HH3 hH
 go_wp2_with fail
 refine (div_is 4294967296 m x _ i1 im EX.out).mono ?_
 rintro e w' ⟨rfl, n1, rfl⟩
 go_wp2_with fail
 refine (div_is 4294967296 i y _ i1 ii EY.out).mono ?_
 rintro e w' ⟨rfl, n2, rfl⟩
 go_wp2_with fail
 obtain ⟨V, eV⟩ : ∃ V, V = (((((w4.drewN (n1 + n2)).setCell ⟨w.heap.size + 1, 0, none⟩ (.int .i64 m)).setCell ⟨w.heap.size + 1, 1, none⟩ (.int .i64 i)).setCell ⟨w.heap.size + 1, 2, none⟩ (.int .i64 x)).setCell ⟨w.heap.size + 1, 3, none⟩ (.int .i64 y)) := ⟨_, rfl⟩
 have hV : Has V (w.heap.size + 1) 96 #[.int .i64 m, .int .i64 i, .int .i64 x, .int .i64 y] := by
  rw [eV]
  exact ((((HH4.out.drawn (n1 + n2)).put 0 (.int .i64 m)).put 1 (.int .i64 i)).put 2 (.int .i64 x)).put 3 (.int .i64 y)
 have kV : Below w.heap.size w V := by
  rw [eV]
  have k5 : Below w.heap.size w (w4.drewN (n1 + n2)) := ⟨K4.out.os, K4.out.tape, K4.out.output, K4.out.size, K4.out.block⟩
  exact (((k5.setCell (p := ⟨w.heap.size + 1, 0, none⟩) (by simp) _).setCell (p := ⟨w.heap.size + 1, 1, none⟩) (by simp) _).setCell (p := ⟨w.heap.size + 1, 2, none⟩) (by simp) _).setCell (p := ⟨w.heap.size + 1, 3, none⟩) (by simp) _
 rw [← eV]
 have r0 := hV.at_ 0
 have r1 := hV.at_ 1
 have r2 := hV.at_ 2
 have r3 := hV.at_ 3
 simp at r0 r1 r2 r3
 exact bodyPost_ret (v := massV m i x y) (by simp [results, Tryz.results37, go_sem, r0, r1, r2, r3]) rfl ⟨rfl, kV⟩
theorem of_answers_any (p0 p1 p2 p3 p4 p5 p6 d K R : Int) (s : Value) (w : World) (id_ : I64 d) (A B : Int) (iA : I64 A) (iB : I64 B)
  (hA : ∀ v, Below w.heap.size w v → Calls Tryz.prog 71 #[shapeV K R s] v fun e w' => e = .returned (.int .i64 A) ∧ Below v.heap.size v w')
  (hB : ∀ v, Below w.heap.size w v → Calls Tryz.prog 72 #[shapeV K R s] v fun e w' => e = .returned (.int .i64 B) ∧ Below v.heap.size v w') :
  Calls Tryz.prog 37 #[bodyV p0 p1 p2 p3 p4 p5 p6 d K R s] w fun e w' => e = .returned (massOf d A B) ∧ Below w.heap.size w w' := by
 by_cases h : d ≤ 0
 ·exact of_static_any p0 p1 p2 p3 p4 p5 p6 d K R s w h A B
 ·exact of_moves_any p0 p1 p2 p3 p4 p5 p6 d K R s w id_ (by omega) A B iA iB hA hB
def areaB (b : Bd) : Int := if b.k = 1 then areaC b.r else sumT areaT b.f b.n b.n
def roundB (b : Bd) : Int := if b.k = 1 then roundC b.r else sumT roundT b.f b.n b.n
def massB (b : Bd) : Value := massOf b.de (areaB b) (roundB b)
theorem areaC_i64 (r : Int) : I64 (areaC r) := i64_mul _ _
theorem roundC_i64 (r : Int) : I64 (roundC r) := i64_div _ _
theorem mof_c (b : Bd) {w : World} (hi : BdI b) (hp : BodyP b) (hs : Sl w b.ao b.n b.f) :
  Calls Tryz.prog 37 #[bdV b] w fun e v => e = .returned (massB b) ∧ Below w.heap.size w v := by
 by_cases hk : b.k = 1
 ·have hA : areaB b = areaC b.r := if_pos hk
  have hB : roundB b = roundC b.r := if_pos hk
  unfold massB
  rw [hA, hB]
  refine of_answers_any b.id b.x b.y b.vx b.vy b.an b.sp b.de b.k b.r _ w hi.de _ _ (areaC_i64 _) (roundC_i64 _) ?_ ?_
  ·intro v k
   rw [hk]
   exact (area_circle b.r _ _ _ _ v hi.r rfl).mono fun e u h => ⟨h.1, h.2.1⟩
  ·intro v k
   rw [hk]
   exact (round_circle b.r _ _ _ _ v hi.r rfl).mono fun e u h => ⟨h.1, h.2.1⟩
 ·have hA : areaB b = sumT areaT b.f b.n b.n := if_neg hk
  have hB : roundB b = sumT roundT b.f b.n b.n := if_neg hk
  have hn : 0 < b.n ∧ b.n ≤ 8 := by
   rcases hp.shape with h | h
   ·exact absurd h.1 hk
   ·omega
  obtain ⟨g, off, e, hP⟩ := hs hn.1
  unfold massB
  rw [hA, hB]
  refine of_answers_any b.id b.x b.y b.vx b.vy b.an b.sp b.de b.k b.r _ w hi.de _ _ (sumT_i64 _ _ _ _) (sumT_i64 _ _ _ _) ?_ ?_
  ·intro v k
   rw [e]
   exact area_is b.k b.r g off b.n b.c b.f v hk hn.1 hn.2 (fun i h => ⟨Below.reads k (hP i h).1, Below.reads k (hP i h).2⟩) hi.f
  ·intro v k
   rw [e]
   exact round_is b.k b.r g off b.n b.c b.f v hk hn.1 hn.2 (fun i h => ⟨Below.reads k (hP i h).1, Below.reads k (hP i h).2⟩) hi.f
end Go.Proofs.YtjhcejmfiekjgaaGreat.Fx
/- What orders do, plain; worlds of which only some blocks have turned, whatever marks what was made bears. -/
namespace Go.Proofs.YtjhcejmfiekjgaaGreat.Fx
open Go.ChangeShapes Go.WideShapes Go.ChangeAt Go.RowKit
set_option linter.unusedVariables false
structure BuB (X : Nat → Prop) (w v : World) : Prop where
 os : v.os = w.os
 tape : v.tape = w.tape
 output : v.output = w.output
 size : w.heap.size ≤ v.heap.size
 block : ∀ b, b < w.heap.size → ¬ X b → v.heap[b]? = w.heap[b]?
theorem But.bub {X : Nat → Prop} {w v : World} (h : But X w v) : BuB X w v := ⟨h.os, h.tape, h.output, h.size, h.block⟩
theorem Below.bub {X : Nat → Prop} {w v : World} (h : Below w.heap.size w v) : BuB X w v := ⟨h.os, h.tape, h.output, h.size, fun b hb _ => h.block b hb⟩
theorem Made.bub {X : Nat → Prop} {w v : World} (h : Made w.heap.size w v) : BuB X w v := Below.bub h.1
theorem BuB.rfl_ (X : Nat → Prop) (w : World) : BuB X w w := (But.rfl_ X w).bub
theorem BuB.then_ {X : Nat → Prop} {a b c : World} (h : BuB X a b) (k : BuB X b c) : BuB X a c :=
 ⟨k.os.trans h.os, k.tape.trans h.tape, k.output.trans h.output, Nat.le_trans h.size k.size, fun i hi hx => (k.block i (Nat.lt_of_lt_of_le hi h.size) hx).trans (h.block i hi hx)⟩
theorem BuB.then_' {X Y : Nat → Prop} {a b c : World} (h : BuB X a b) (k : BuB Y b c) (hY : ∀ g, Y g → X g ∨ a.heap.size ≤ g) : BuB X a c :=
 ⟨k.os.trans h.os, k.tape.trans h.tape, k.output.trans h.output, Nat.le_trans h.size k.size, fun i hi hx => (k.block i (Nat.lt_of_lt_of_le hi h.size) (fun hy => by
  rcases hY i hy with h1 | h1
  ·exact hx h1
  ·omega)).trans (h.block i hi hx)⟩
theorem BuB.up {X Y : Nat → Prop} {w v : World} (k : BuB X w v) (h : ∀ b, b < w.heap.size → X b → Y b) : BuB Y w v :=
 ⟨k.os, k.tape, k.output, k.size, fun b hb hy => k.block b hb (fun hx => hy (h b hb hx))⟩
theorem BuB.below_ {X : Nat → Prop} {B : Nat} {a w v : World} (h : Below B a w) (k : BuB X w v) (hB : B ≤ w.heap.size) (hX : ∀ b, X b → B ≤ b) : Below B a v :=
 ⟨k.os.trans h.os, k.tape.trans h.tape, k.output.trans h.output, Nat.le_trans h.size k.size, fun b hb => (k.block b (Nat.lt_of_lt_of_le hb hB) (fun hx => by have := hX b hx; omega)).trans (h.block b hb)⟩
theorem BuB.below {w v : World} (k : BuB Nil0 w v) : Below w.heap.size w v := BuB.below_ (Below.refl _ _) k (Nat.le_refl _) (fun _ h => h.elim)
theorem BuB.put {X : Nat → Prop} {a w : World} (h : BuB X a w) {p : Addr} (hp : X p.block ∨ a.heap.size ≤ p.block) (u : Value) : BuB X a (w.setCell p u) := by
 have e : (w.setCell p u).heap.size = w.heap.size := by simp [World.setCell]
 refine ⟨h.os, h.tape, h.output, Nat.le_trans h.size (Nat.le_of_eq e.symm), fun b hb hx => ?_⟩
 refine (Below.heap_setCell w p u b ?_).trans (h.block b hb hx)
 rintro rfl
 rcases hp with hp | hp
 ·exact hx hp
 ·omega
theorem BuB.cell {X : Nat → Prop} {w v : World} (h : BuB X w v) {p : Addr} {x : Value} (k : w.cell? p = some x) (hx : ¬ X p.block) : v.cell? p = some x :=
 (World.cell?_of_block (h.block p.block (World.block_lt_of_cell? w _ k) hx)).trans k
theorem Has.bub {X : Nat → Prop} {w v : World} {g : Nat} {t : TypeId} {cs : Array Value} (h : Has w g t cs) (k : BuB X w v) (hx : ¬ X g) : Has v g t cs := (k.block g h.here hx).trans h
section
variable {α : Type} {enc : α → List Value} {k : Nat}
theorem LsB.bub {X : Nat → Prop} {w v : World} {b off : Nat} {l : List α} (h : LsB enc k w b off l) (kk : BuB X w v) (hx : ¬ X b) : LsB enc k v b off l := fun i x hi j u hu => kk.cell (h i x hi j u hu) hx
theorem LsT.bub {X : Nat → Prop} {w v : World} {ao : Option Addr} {l : List α} (h : LsT enc k w ao l) (kk : BuB X w v) (hx : 0 < l.length → Offs X ao) : LsT enc k v ao l := fun hl => by
 obtain ⟨b, off, e, hb, h⟩ := h hl
 exact ⟨b, off, e, Nat.lt_of_lt_of_le hb kk.size, h.bub kk (hx hl b off _ e)⟩
end
theorem Pts.bub {X : Nat → Prop} {w v : World} {b off n : Nat} {f : Nat → Int × Int} (h : Pts w b off n f) (k : BuB X w v) (hx : ¬ X b) : Pts v b off n f := fun i hi => ⟨k.cell (h i hi).1 hx, k.cell (h i hi).2 hx⟩
theorem Sl.bub {X : Nat → Prop} {w v : World} {ao : Option Addr} {n : Nat} {f : Cs} (h : Sl w ao n f) (k : BuB X w v) (hx : 0 < n → Offs X ao) : Sl v ao n f := fun hn => by
 obtain ⟨b, off, e, hp⟩ := h hn
 exact ⟨b, off, e, hp.bub k (hx hn b off _ e)⟩
theorem WLs.bub {X Y : Nat → Prop} {w v : World} {ob oj oc : Option Addr} {cb cj cc : Nat} {B : List Bd} {J : List Jt} {C : List Ct} (h : WLs X w ob cb B oj cj J oc cc C) (k : BuB Y w v) (hY : ∀ b, Y b → X b) : WLs X v ob cb B oj cj J oc cc C :=
 have k : BuB X w v := k.up (fun b _ => hY b)
 ⟨⟨h.at_.lB.bub k h.offB, h.at_.lJ.bub k h.offJ, h.at_.lC.bub k h.offC, fun b hb => ⟨(h.at_.sB b hb).1.bub k (h.offP b hb), (h.at_.sB b hb).2⟩, h.at_.iJ, h.at_.iC⟩, h.okB, h.okJ, h.okC, h.offB, h.offJ, h.offC, h.offP, h.okP⟩
theorem WVar.bub {X Y : Nat → Prop} {w v : World} {gw : Nat} {tk nb nj gx gy : Int} {B : List Bd} {J : List Jt} {C : List Ct} (h : WVar X w gw tk nb nj gx gy B J C) (k : BuB Y w v) (hY : ∀ b, Y b → X b) (hg : ¬ Y gw) : WVar X v gw tk nb nj gx gy B J C := by
 obtain ⟨ob, oj, oc, cb, cj, cc, hH, hL⟩ := h
 exact ⟨ob, oj, oc, cb, cj, cc, hH.bub k hg, hL.bub k hY⟩
structure PG where
 tk : Int
 gx : Int
 gy : Int
 P : PW
abbrev GV (X : Nat → Prop) (w : World) (gw : Nat) (G : PG) : Prop := WVar X w gw G.tk G.P.nb G.P.nj G.gx G.gy G.P.B G.P.J G.P.C
abbrev GOk (G : PG) : Prop := WorldP G.tk G.P.nb G.P.nj G.gx G.gy G.P.B G.P.J G.P.C
theorem GOk.p {G : PG} (h : GOk G) : POk G.P := ⟨h.hB, h.hJ, h.hC⟩
theorem POk.g {G : PG} (h : POk G.P) (ht : 0 ≤ G.tk ∧ G.tk ≤ 4611686018427387904) (hx : Inn G.gx 17592186044416) (hy : Inn G.gy 17592186044416) : GOk G := ⟨ht, hx, hy, h.hB, h.hJ, h.hC⟩
def moveB (b : Bd) : Int := if b.de ≤ 0 then 0 else divF 4294967296 (max (mulF b.de (areaB b)) 1)
def spinB (b : Bd) : Int := if b.de ≤ 0 then 0 else divF 4294967296 (max (mulF b.de (roundB b)) 1)
def pushB (vx vy sp : Int) (b : Bd) : Bd := { b with vx := bringF (addF b.vx (mulF vx (moveB b))) (negF 17592186044416) 17592186044416, vy := bringF (addF b.vy (mulF vy (moveB b))) (negF 17592186044416) 17592186044416, sp := bringF (addF b.sp (mulF sp (spinB b))) (-1099511627776) 1099511627776 }
def PushP (id vx vy sp : Int) (P P' : PW) : Prop :=
 ((∀ b ∈ P.B, b.id = id → b.de ≤ 0) ∧ P' = P) ∨
 ∃ (i : Nat) (b : Bd), P.B[i]? = some b ∧ b.id = id ∧ 0 < b.de ∧ P' = ⟨P.nb, P.nj, P.B.set i (pushB vx vy sp b), P.J, P.C⟩
def ExecP (o : Or) (G : PG) (er : Int) (G' : PG) : Prop :=
 (o.kd = 1 ∧ ∃ n P', AddBP (bodyOr o) G.P n er P' ∧ G' = ⟨G.tk, G.gx, G.gy, P'⟩) ∨
 (o.kd = 2 ∧ er = 0 ∧ ∃ gone P', RemBP o.id G.P gone P' ∧ G' = ⟨G.tk, G.gx, G.gy, P'⟩) ∨
 (o.kd = 3 ∧ ∃ n P', AddJP (jointOr o) G.P n er P' ∧ G' = ⟨G.tk, G.gx, G.gy, P'⟩) ∨
 (o.kd = 4 ∧ er = 0 ∧ ∃ gone P', RemJP o.id G.P gone P' ∧ G' = ⟨G.tk, G.gx, G.gy, P'⟩) ∨
 (o.kd = 5 ∧ er = 0 ∧ ∃ P', PushP o.id o.vx o.vy o.sp G.P P' ∧ G' = ⟨G.tk, G.gx, G.gy, P'⟩) ∨
 (o.kd = 6 ∧ er = 0 ∧ G' = ⟨G.tk, o.vx, o.vy, G.P⟩)
end Go.Proofs.YtjhcejmfiekjgaaGreat.Fx