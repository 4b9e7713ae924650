/- The iterator of package mass: each corner and the next one. -/
import Derived.RangeFuncNested
import Derived.RangeFuncBound
import Derived.RangeFuncCalls
import Derived.RangeFuncLeaves
import Derived.Shelf.Abstract
import Derived.Shelf.RegionOpen
import Derived.WalkKit
import Derived.OwnWalkIn
import Derived.TacticsInMore
import Derived.LoopNIn
import Derived.LoopIn
import Derived.Test.YtahbnbaldoblaaaVecs
import Derived.Test.YtahbnbaldoblaaaMem
import Derived.Test.YtahbnbaldoblaaaPlain
namespace Go.Proofs.Ytahbnbaldoblaaa.Fx
open Go.ChangeShapes Go.WideShapes Go.ChangeAt Go.RowKit
set_option linter.unusedVariables false
attribute [local go_sem] Oper.semAt_some

/-- a round keeps what lay below n₀, and block B -/
def KeepB (n₀ B : Nat) (W W' : World) : Prop := Below n₀ W W' ∧ W'.heap[B]? = W.heap[B]?
theorem KeepB.t {n₀ B : Nat} {X Y Z : World} (h : KeepB n₀ B X Y) (k : KeepB n₀ B Y Z) : KeepB n₀ B X Z := ⟨h.1.trans k.1, k.2.trans h.2⟩
theorem KeepB.cell {n₀ B : Nat} {X Y : World} (h : KeepB n₀ B X Y) (i : Nat) : Y.cell? ⟨B, i, none⟩ = X.cell? ⟨B, i, none⟩ := World.cell?_of_block h.2
theorem KeepB.rfl_ (n₀ B : Nat) (W : World) : KeepB n₀ B W W := ⟨Below.refl _ _, rfl⟩

set_option maxRecDepth 100000 in
set_option maxHeartbeats 2000000 in
theorem sides1_in (F : Fence) (n : Nat) (hf : F.fn 40) (hro : F.round = none) (hn : 1 ≤ n) (l Bs n₀ b off len cap : Nat) (f : Cs) (h0 : 0 < len) (h8 : len ≤ 8) (hb : b < n₀) (J Jx : List Nat → World → Prop)
    (W : World) (hn₀ : n₀ ≤ W.heap.size) (hBs' : Bs < W.heap.size) (hJ : AbidesFrom W.heap.size J)
    (hY : ∀ pre x W1, J pre W1 → pre.length < len → YieldAt F (n - 1) Try.prog l #[vecV (f (x % len)).1 (f (x % len)).2, vecV (f ((x + 1) % len)).1 (f ((x + 1) % len)).2] W1 fun e W' =>
      (e = .returned (.bool true) ∧ J (pre ++ [x]) W' ∧ KeepB n₀ Bs W1 W') ∨ (e = .returned (.bool false) ∧ Jx (pre ++ [x]) W'))
    (hBs : W.cell? ⟨Bs, 0, none⟩ = some (.slice (some ⟨b, off, none⟩) len cap)) (hP : Pts W b off len f) (hj : J [] W) :
    CallsIn F n Try.prog 40 #[.func (.yield l) #[] #[], .pointer (some ⟨Bs, 0, none⟩)] W fun e W' => (∃ v, e = .returned v) ∧
      ((∃ ys, ys = List.range len ∧ J ys W') ∨ (∃ pre, (∃ k, k ≤ len ∧ pre = List.range k) ∧ Jx pre W')) := by
  have HP := hid hP
  clear hP
  have HB := hid hBs
  refine callsIn_of_wp Try.func40 rfl hf ?_ hro
  simp only [Try.ntmps40, List.size_toArray, List.length_cons, List.length_nil, Nat.reduceAdd, Nat.reduceSub, Array.replicate_succ, Array.replicate_zero, List.push_toArray, List.append_toArray, List.nil_append, List.cons_append]
  gi_wp2
  clear hBs
  gi_loopw [7] (fun i wr => ∃ k : Nat, k ≤ len ∧ i = .int .i64 k ∧ Hid (J (List.range k) wr ∧ KeepB n₀ Bs W wr))
    (fun i _ => len - (intOf i).toNat)
  case atStart => exact ⟨0, Nat.zero_le _, rfl, hj, KeepB.rfl_ _ _ _⟩
  case round =>
    obtain ⟨k, hk, rfl, HT⟩ := hrel
    by_cases hlt : k < len
    · obtain ⟨j, ej⟩ : ∃ j, (k + 1) % len = j := ⟨_, rfl⟩
      have hjl : j < len := by rw [← ej]; exact Nat.mod_lt _ h0
      have hm : ((k : Int) + 1).tmod (len : Int) = (j : Int) := by
        rw [Int.tmod_eq_emod_of_nonneg (by omega), ← ej, Int.natCast_emod, Int.natCast_add]
        rfl
      have c0 : wr.cell? ⟨b, off + k * 2, none⟩ = some (.int .i64 (f k).1) := (HT.out.2.1.cell (p := ⟨b, _, none⟩) hb).trans (HP.out k hlt).1
      have c1 : wr.cell? ⟨b, off + k * 2 + 1, none⟩ = some (.int .i64 (f k).2) := (HT.out.2.1.cell (p := ⟨b, _, none⟩) hb).trans (HP.out k hlt).2
      have d0 : wr.cell? ⟨b, off + j * 2, none⟩ = some (.int .i64 (f j).1) := (HT.out.2.1.cell (p := ⟨b, _, none⟩) hb).trans (HP.out j hjl).1
      have d1 : wr.cell? ⟨b, off + j * 2 + 1, none⟩ = some (.int .i64 (f j).2) := (HT.out.2.1.cell (p := ⟨b, _, none⟩) hb).trans (HP.out j hjl).2
      have zB : wr.cell? ⟨Bs, 0, none⟩ = some (.slice (some ⟨b, off, none⟩) len cap) := (HT.out.2.cell 0).trans HB.out
      have hsz : W.heap.size ≤ wr.heap.size := HT.out.2.1.size
      gi_wp2
      obtain ⟨W1, eW⟩ : ∃ W1, W1 = wr.alloc (.cells #[.int .i64 (f k).1, .int .i64 (f k).2] 34) := ⟨_, rfl⟩
      have g1 : wr.grownBy W1 none := by rw [eW]; exact World.grownBy_alloc _ _ _
      have hk1 : KeepB n₀ Bs W W1 := HT.out.2.t ⟨by rw [eW]; exact (Below.refl _ _).alloc (by omega) _, by rw [eW]; exact Below.heap_alloc _ _ _ (by omega)⟩
      have c0' : W1.cell? ⟨wr.heap.size, 0, none⟩ = some (.int .i64 (f k).1) := by rw [eW]; go_simp
      have c1' : W1.cell? ⟨wr.heap.size, 1, none⟩ = some (.int .i64 (f k).2) := by rw [eW]; go_simp
      have zB' : W1.cell? ⟨Bs, 0, none⟩ = some (.slice (some ⟨b, off, none⟩) len cap) := by rw [eW]; exact cell_more zB
      have d0' : W1.cell? ⟨b, off + j * 2, none⟩ = some (.int .i64 (f j).1) := by rw [eW]; exact cell_more d0
      have d1' : W1.cell? ⟨b, off + j * 2 + 1, none⟩ = some (.int .i64 (f j).2) := by rw [eW]; exact cell_more d1
      have HK := hid hk1
      have HG := hid g1
      have HJ := hid (hJ _ _ _ _ HT.out.1 g1 (by simp))
      rw [← eW]
      clear eW hk1 g1 c0 c1 d0 d1 zB
      refine regIn_drawn_tail 10 (by kernel_rfl) (by kernel_rfl) (by kernel_rfl) ?_
      simp only [List.take_succ_cons, List.take_zero, List.drop_succ_cons, List.drop_zero]
      repeat (gi_big_quiet_step (fail))
      refine wpQuietIn_nil ?_
      rintro W2 ⟨q, rfl⟩
      have HJ2 := hJ _ _ (W1.drewN q) none HJ.out ⟨rfl, rfl, rfl, Nat.le_refl _, fun _ _ _ => rfl⟩ (by simp)
      obtain ⟨fn, tmps, assign, body, hy, hR⟩ := hY (List.range k) k (W1.drewN q) HJ2 (by rw [List.length_range]; exact hlt)
      rw [Nat.mod_eq_of_lt hlt, ej] at hy
      have HR := hid hR
      clear hR HJ2
      gi_wp2
      refine HR.out.mono ?_
      rintro e W3 (⟨rfl, hJ3, hk3⟩ | ⟨rfl, hJx3⟩)
      · have HJ3 := hid hJ3
        have HK3 := hid hk3
        clear hJ3 hk3
        gi_wp2
        go_roundw
        case rel => exact ⟨k + 1, by omega, by simp, by rw [List.range_succ]; exact HJ3.out, HK.out.t (KeepB.t (Y := W1.drewN q) ⟨⟨rfl, rfl, rfl, Nat.le_refl _, fun _ _ => rfl⟩, rfl⟩ HK3.out)⟩
        case measure => simp [intOf]; omega
      · gi_wp2
        refine bodyPost_ret (results_none rfl _ _ _) rfl ?_
        exact ⟨⟨_, rfl⟩, .inr ⟨_, ⟨k + 1, by omega, List.range_succ.symm⟩, hJx3⟩⟩
    · obtain rfl : k = len := by omega
      gi_wp2
      go_end0
      exact ⟨⟨_, rfl⟩, .inl ⟨_, rfl, HT.out.1⟩⟩


abbrev cornersAt (f : Cs) (n x : Nat) : Array Value := #[vecV (f (x % n)).1 (f (x % n)).2, vecV (f ((x + 1) % n)).1 (f ((x + 1) % n)).2]

theorem sides1_stops (F : Fence) (n : Nat) (hf : F.fn 40) (hro : F.round = none) (hn : 1 ≤ n) (Bs n₀ b off len cap : Nat) (f : Cs) (h0 : 0 < len) (h8 : len ≤ 8) (w : World) (hBs' : Bs < w.heap.size) (hn₀ : n₀ ≤ w.heap.size) (hb : b < n₀)
    (hBs : w.cell? ⟨Bs, 0, none⟩ = some (.slice (some ⟨b, off, none⟩) len cap)) (hP : Pts w b off len f) :
    SeqStopsK F n Try.prog 40 #[.pointer (some ⟨Bs, 0, none⟩)] (cornersAt f len) (KeepB n₀ Bs) (fun ys => ys = List.range len) (fun pre => ∃ k, k ≤ len ∧ pre = List.range k) len w := fun l J Jx W hW hJ _ hY hj =>
  sides1_in F n hf hro hn l Bs n₀ b off len cap f h0 h8 hb J Jx W (by have := hW.size; omega) (by have := hW.size; omega) hJ hY ((hW.cell (p := ⟨Bs, 0, none⟩) hBs').trans hBs)
    (fun i hi => ⟨(hW.cell (p := ⟨b, _, none⟩) (by simp only []; omega)).trans (hP i hi).1, (hW.cell (p := ⟨b, _, none⟩) (by simp only []; omega)).trans (hP i hi).2⟩) hj

set_option maxRecDepth 100000 in
theorem sides_in (F : Fence) (n : Nat) (hf : F.fn 33) (hro : F.round = none) (a : Option Addr) (len cap : Nat) (w : World) :
    CallsIn F n Try.prog 33 #[.slice a len cap] w fun e w' => e = .returned (.func (.func 40) #[] #[.pointer (some ⟨w.heap.size, 0, none⟩)]) ∧ w' = w.alloc (.cells #[.slice a len cap] 26) := by
  refine callsIn_of_wp Try.func33 rfl hf ?_ hro
  simp only [Try.ntmps33, List.size_toArray, List.length_cons, List.length_nil, Nat.reduceAdd, Nat.reduceSub, Array.replicate_succ, Array.replicate_zero, List.push_toArray, List.append_toArray, List.nil_append, List.cons_append]
  gi_wp2
  go_ret
  exact ⟨rfl, rfl⟩

theorem KeepB.b {n₀ B : Nat} {w : World} (hn : n₀ ≤ w.heap.size) (hB : B < w.heap.size) (W : World) (l : Nat) (o o' : Obj) (hl : w.heap.size ≤ l) (h : W.heap[l]? = some o) (h1 : o.isCells = false) (h2 : o.isWalk = false) : KeepB n₀ B W (W.putObj l o') :=
  ⟨belowK_b hn W l o o' hl h h1 h2, by have := belowK_b (n₀ := w.heap.size) (Nat.le_refl _) W l o o' hl h h1 h2; exact this.block B hB⟩
theorem keepsFrom_of_below {B : Nat} {W W' : World} (h : Below W.heap.size W W') : KeepsFrom B W W' :=
  ⟨h.size, fun k o _ hk _ => (h.block k (Array.getElem?_eq_some_iff.1 hk).1).trans hk⟩
end Go.Proofs.Ytahbnbaldoblaaa.Fx
