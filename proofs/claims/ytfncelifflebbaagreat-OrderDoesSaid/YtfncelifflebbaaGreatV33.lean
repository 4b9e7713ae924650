/- MassD MassE MassF -/
import Derived.Test.YtfncelifflebbaaGreatV0
import Derived.Test.YtfncelifflebbaaGreatV1
import Derived.Test.YtfncelifflebbaaGreatV4
import Derived.Test.YtfncelifflebbaaGreatV5
import Derived.Test.YtfncelifflebbaaGreatV32
import Derived.RangeFuncNested
import Derived.RangeFuncBound
import Derived.RangeFuncCalls
import Derived.RangeFuncLeaves
import Derived.Shelf.Abstract
import Derived.Shelf.RegionOpen
import Derived.WalkKit
import Derived.OwnWalkIn
import Derived.TacticsInMore
import Derived.LoopNIn
import Derived.LoopIn

/- What package mass is to answer, as one premise; the statements' own square. -/




namespace Go.Proofs.YtfncelifflebbaaGreat.Fx
open Go.ChangeShapes Go.WideShapes Go.ChangeAt Go.RowKit
set_option linter.unusedVariables false

abbrev massV (m i v s : Int) : Value := .agg #[.int .i64 m, .int .i64 i, .int .i64 v, .int .i64 s]
def massOf (d a r : Int) : Value := if d ≤ 0 then massV 0 0 0 0 else massV (max (mulF d a) 1) (max (mulF d r) 1) (divF 4294967296 (max (mulF d a) 1)) (divF 4294967296 (max (mulF d r) 1))

structure MassSays : Prop where
  area : ∀ (b off n cap : Nat) (f : Cs) (w : World), 0 < n → n ≤ 8 → Pts w b off n f → Cin f n →
    Calls Tryz.prog 59 #[shapeV 2 0 (.slice (some ⟨b, off, none⟩) n cap)] w fun e w' => e = .returned (.int .i64 (sumT areaT f n n)) ∧ Below w.heap.size w w'
  disc : ∀ (R : Int) (w : World), I64 R →
    Calls Tryz.prog 59 #[shapeV 1 R (.slice none 0 0)] w fun e w' => e = .returned (.int .i64 (areaC R)) ∧ Below w.heap.size w w'
  round : ∀ (b off n cap : Nat) (f : Cs) (w : World), 0 < n → n ≤ 8 → Pts w b off n f → Cin f n →
    Calls Tryz.prog 60 #[shapeV 2 0 (.slice (some ⟨b, off, none⟩) n cap)] w fun e w' => e = .returned (.int .i64 (sumT roundT f n n)) ∧ Below w.heap.size w w'
  discRound : ∀ (R : Int) (w : World), I64 R →
    Calls Tryz.prog 60 #[shapeV 1 R (.slice none 0 0)] w fun e w' => e = .returned (.int .i64 (roundC R)) ∧ Below w.heap.size w w'
  of : ∀ (d : Int) (b off n cap : Nat) (f : Cs) (w : World), I64 d → 0 < n → n ≤ 8 → Pts w b off n f → Cin f n →
    Calls Tryz.prog 22 #[bodyV 0 0 0 0 0 0 0 d 2 0 (.slice (some ⟨b, off, none⟩) n cap)] w fun e w' => e = .returned (massOf d (sumT areaT f n n) (sumT roundT f n n)) ∧ Below w.heap.size w w'
  ofDisc : ∀ (d R : Int) (w : World), I64 d → I64 R →
    Calls Tryz.prog 22 #[bodyV 0 0 0 0 0 0 0 d 1 R (.slice none 0 0)] w fun e w' => e = .returned (massOf d (areaC R) (roundC R)) ∧ Below w.heap.size w w'

end Go.Proofs.YtfncelifflebbaaGreat.Fx


/- The iterator of package mass: each corner and the next one. -/














namespace Go.Proofs.YtfncelifflebbaaGreat.Fx
open Go.ChangeShapes Go.WideShapes Go.ChangeAt Go.RowKit
set_option linter.unusedVariables false
attribute [local go_sem] Oper.semAt_some

def KeepB (n₀ B : Nat) (W W' : World) : Prop := Below n₀ W W' ∧ W'.heap[B]? = W.heap[B]?
theorem KeepB.t {n₀ B : Nat} {X Y Z : World} (h : KeepB n₀ B X Y) (k : KeepB n₀ B Y Z) : KeepB n₀ B X Z := ⟨h.1.trans k.1, k.2.trans h.2⟩
theorem KeepB.cell {n₀ B : Nat} {X Y : World} (h : KeepB n₀ B X Y) (i : Nat) : Y.cell? ⟨B, i, none⟩ = X.cell? ⟨B, i, none⟩ := World.cell?_of_block h.2
theorem KeepB.rfl_ (n₀ B : Nat) (W : World) : KeepB n₀ B W W := ⟨Below.refl _ _, rfl⟩

set_option maxRecDepth 100000 in
set_option maxHeartbeats 2000000 in
theorem sides1_in (F : Fence) (n : Nat) (hf : F.fn 127) (hro : F.round = none) (hn : 1 ≤ n) (l Bs n₀ b off len cap : Nat) (f : Cs) (h0 : 0 < len) (h8 : len ≤ 8) (hb : b < n₀) (J Jx : List Nat → World → Prop)
    (W : World) (hn₀ : n₀ ≤ W.heap.size) (hBs' : Bs < W.heap.size) (hJ : AbidesFrom W.heap.size J)
    (hY : ∀ pre x W1, J pre W1 → pre.length < len → YieldAt F (n - 1) Tryz.prog l #[vecV (f (x % len)).1 (f (x % len)).2, vecV (f ((x + 1) % len)).1 (f ((x + 1) % len)).2] W1 fun e W' =>
      (e = .returned (.bool true) ∧ J (pre ++ [x]) W' ∧ KeepB n₀ Bs W1 W') ∨ (e = .returned (.bool false) ∧ Jx (pre ++ [x]) W'))
    (hBs : W.cell? ⟨Bs, 0, none⟩ = some (.slice (some ⟨b, off, none⟩) len cap)) (hP : Pts W b off len f) (hj : J [] W) :
    CallsIn F n Tryz.prog 127 #[.func (.yield l) #[] #[], .pointer (some ⟨Bs, 0, none⟩)] W fun e W' => (∃ v, e = .returned v) ∧
      ((∃ ys, ys = List.range len ∧ J ys W') ∨ (∃ pre, (∃ k, k ≤ len ∧ pre = List.range k) ∧ Jx pre W')) := by
  have HP := hid hP
  clear hP
  have HB := hid hBs
  refine callsIn_of_wp Tryz.func127 rfl hf ?_ hro
  simp only [Tryz.ntmps127, List.size_toArray, List.length_cons, List.length_nil, Nat.reduceAdd, Nat.reduceSub, Array.replicate_succ, Array.replicate_zero, List.push_toArray, List.append_toArray, List.nil_append, List.cons_append]
  gi_wp2
  clear hBs
  gi_loopw [7] (fun i wr => ∃ k : Nat, k ≤ len ∧ i = .int .i64 k ∧ Hid (J (List.range k) wr ∧ KeepB n₀ Bs W wr))
    (fun i _ => len - (intOf i).toNat)
  case atStart => exact ⟨0, Nat.zero_le _, rfl, hj, KeepB.rfl_ _ _ _⟩
  case round =>
    obtain ⟨k, hk, rfl, HT⟩ := hrel
    by_cases hlt : k < len
    · obtain ⟨j, ej⟩ : ∃ j, (k + 1) % len = j := ⟨_, rfl⟩
      have hjl : j < len := by rw [← ej]; exact Nat.mod_lt _ h0
      have hm : ((k : Int) + 1).tmod (len : Int) = (j : Int) := by
        rw [Int.tmod_eq_emod_of_nonneg (by omega), ← ej, Int.natCast_emod, Int.natCast_add]
        rfl
      have c0 : wr.cell? ⟨b, off + k * 2, none⟩ = some (.int .i64 (f k).1) := (HT.out.2.1.cell (p := ⟨b, _, none⟩) hb).trans (HP.out k hlt).1
      have c1 : wr.cell? ⟨b, off + k * 2 + 1, none⟩ = some (.int .i64 (f k).2) := (HT.out.2.1.cell (p := ⟨b, _, none⟩) hb).trans (HP.out k hlt).2
      have d0 : wr.cell? ⟨b, off + j * 2, none⟩ = some (.int .i64 (f j).1) := (HT.out.2.1.cell (p := ⟨b, _, none⟩) hb).trans (HP.out j hjl).1
      have d1 : wr.cell? ⟨b, off + j * 2 + 1, none⟩ = some (.int .i64 (f j).2) := (HT.out.2.1.cell (p := ⟨b, _, none⟩) hb).trans (HP.out j hjl).2
      have zB : wr.cell? ⟨Bs, 0, none⟩ = some (.slice (some ⟨b, off, none⟩) len cap) := (HT.out.2.cell 0).trans HB.out
      have hsz : W.heap.size ≤ wr.heap.size := HT.out.2.1.size
      gi_wp2
      obtain ⟨W1, eW⟩ : ∃ W1, W1 = wr.alloc (.cells #[.int .i64 (f k).1, .int .i64 (f k).2] 24) := ⟨_, rfl⟩
      have g1 : wr.grownBy W1 none := by rw [eW]; exact World.grownBy_alloc _ _ _
      have hk1 : KeepB n₀ Bs W W1 := HT.out.2.t ⟨by rw [eW]; exact (Below.refl _ _).alloc (by omega) _, by rw [eW]; exact Below.heap_alloc _ _ _ (by omega)⟩
      have c0' : W1.cell? ⟨wr.heap.size, 0, none⟩ = some (.int .i64 (f k).1) := by rw [eW]; go_simp
      have c1' : W1.cell? ⟨wr.heap.size, 1, none⟩ = some (.int .i64 (f k).2) := by rw [eW]; go_simp
      have zB' : W1.cell? ⟨Bs, 0, none⟩ = some (.slice (some ⟨b, off, none⟩) len cap) := by rw [eW]; exact cell_more zB
      have d0' : W1.cell? ⟨b, off + j * 2, none⟩ = some (.int .i64 (f j).1) := by rw [eW]; exact cell_more d0
      have d1' : W1.cell? ⟨b, off + j * 2 + 1, none⟩ = some (.int .i64 (f j).2) := by rw [eW]; exact cell_more d1
      have HK := hid hk1
      have HG := hid g1
      have HJ := hid (hJ _ _ _ _ HT.out.1 g1 (by simp))
      rw [← eW]
      clear eW hk1 g1 c0 c1 d0 d1 zB
      refine regIn_drawn_tail 10 (by kernel_rfl) (by kernel_rfl) (by kernel_rfl) ?_
      simp only [List.take_succ_cons, List.take_zero, List.drop_succ_cons, List.drop_zero]
      repeat (gi_big_quiet_step (fail))
      refine wpQuietIn_nil ?_
      rintro W2 ⟨q, rfl⟩
      have HJ2 := hJ _ _ (W1.drewN q) none HJ.out ⟨rfl, rfl, rfl, Nat.le_refl _, fun _ _ _ => rfl⟩ (by simp)
      obtain ⟨fn, tmps, assign, body, hy, hR⟩ := hY (List.range k) k (W1.drewN q) HJ2 (by rw [List.length_range]; exact hlt)
      rw [Nat.mod_eq_of_lt hlt, ej] at hy
      have HR := hid hR
      clear hR HJ2
      gi_wp2
      refine HR.out.mono ?_
      rintro e W3 (⟨rfl, hJ3, hk3⟩ | ⟨rfl, hJx3⟩)
      · have HJ3 := hid hJ3
        have HK3 := hid hk3
        clear hJ3 hk3
        gi_wp2
        go_roundw
        case rel => exact ⟨k + 1, by omega, by simp, by rw [List.range_succ]; exact HJ3.out, HK.out.t (KeepB.t (Y := W1.drewN q) ⟨⟨rfl, rfl, rfl, Nat.le_refl _, fun _ _ => rfl⟩, rfl⟩ HK3.out)⟩
        case measure => simp [intOf]; omega
      · gi_wp2
        refine bodyPost_ret (results_none rfl _ _ _) rfl ?_
        exact ⟨⟨_, rfl⟩, .inr ⟨_, ⟨k + 1, by omega, List.range_succ.symm⟩, hJx3⟩⟩
    · obtain rfl : k = len := by omega
      gi_wp2
      go_end0
      exact ⟨⟨_, rfl⟩, .inl ⟨_, rfl, HT.out.1⟩⟩


abbrev cornersAt (f : Cs) (n x : Nat) : Array Value := #[vecV (f (x % n)).1 (f (x % n)).2, vecV (f ((x + 1) % n)).1 (f ((x + 1) % n)).2]

theorem sides1_stops (F : Fence) (n : Nat) (hf : F.fn 127) (hro : F.round = none) (hn : 1 ≤ n) (Bs n₀ b off len cap : Nat) (f : Cs) (h0 : 0 < len) (h8 : len ≤ 8) (w : World) (hBs' : Bs < w.heap.size) (hn₀ : n₀ ≤ w.heap.size) (hb : b < n₀)
    (hBs : w.cell? ⟨Bs, 0, none⟩ = some (.slice (some ⟨b, off, none⟩) len cap)) (hP : Pts w b off len f) :
    SeqStopsK F n Tryz.prog 127 #[.pointer (some ⟨Bs, 0, none⟩)] (cornersAt f len) (KeepB n₀ Bs) (fun ys => ys = List.range len) (fun pre => ∃ k, k ≤ len ∧ pre = List.range k) len w := fun l J Jx W hW hJ _ hY hj =>
  sides1_in F n hf hro hn l Bs n₀ b off len cap f h0 h8 hb J Jx W (by have := hW.size; omega) (by have := hW.size; omega) hJ hY ((hW.cell (p := ⟨Bs, 0, none⟩) hBs').trans hBs)
    (fun i hi => ⟨(hW.cell (p := ⟨b, _, none⟩) (by simp only []; omega)).trans (hP i hi).1, (hW.cell (p := ⟨b, _, none⟩) (by simp only []; omega)).trans (hP i hi).2⟩) hj

set_option maxRecDepth 100000 in
theorem sides_in (F : Fence) (n : Nat) (hf : F.fn 94) (hro : F.round = none) (a : Option Addr) (len cap : Nat) (w : World) :
    CallsIn F n Tryz.prog 94 #[.slice a len cap] w fun e w' => e = .returned (.func (.func 127) #[] #[.pointer (some ⟨w.heap.size, 0, none⟩)]) ∧ w' = w.alloc (.cells #[.slice a len cap] 25) := by
  refine callsIn_of_wp Tryz.func94 rfl hf ?_ hro
  simp only [Tryz.ntmps94, List.size_toArray, List.length_cons, List.length_nil, Nat.reduceAdd, Nat.reduceSub, Array.replicate_succ, Array.replicate_zero, List.push_toArray, List.append_toArray, List.nil_append, List.cons_append]
  gi_wp2
  go_ret
  exact ⟨rfl, rfl⟩

theorem KeepB.b {n₀ B : Nat} {w : World} (hn : n₀ ≤ w.heap.size) (hB : B < w.heap.size) (W : World) (l : Nat) (o o' : Obj) (hl : w.heap.size ≤ l) (h : W.heap[l]? = some o) (h1 : o.isCells = false) (h2 : o.isWalk = false) : KeepB n₀ B W (W.putObj l o') :=
  ⟨belowK_b hn W l o o' hl h h1 h2, by have := belowK_b (n₀ := w.heap.size) (Nat.le_refl _) W l o o' hl h h1 h2; exact this.block B hB⟩
theorem keepsFrom_of_below {B : Nat} {W W' : World} (h : Below W.heap.size W W') : KeepsFrom B W W' :=
  ⟨h.size, fun k o _ hk _ => (h.block k (Array.getElem?_eq_some_iff.1 hk).1).trans hk⟩
end Go.Proofs.YtfncelifflebbaaGreat.Fx


/- Area of package mass. -/




namespace Go.Proofs.YtfncelifflebbaaGreat.Fx
open Go.ChangeShapes Go.WideShapes Go.ChangeAt Go.RowKit
set_option linter.unusedVariables false
attribute [local go_sem] Oper.semAt_some

def sumC (T : Int × Int → Int × Int → Int) (f : Cs) (n : Nat) (l : List Nat) : Int := l.foldl (fun s k => addF s (T (f (k % n)) (f ((k + 1) % n)))) 0
theorem sumC_snoc (T : Int × Int → Int × Int → Int) (f : Cs) (n : Nat) (l : List Nat) (x : Nat) : sumC T f n (l ++ [x]) = addF (sumC T f n l) (T (f (x % n)) (f ((x + 1) % n))) := by simp [sumC]
theorem sumC_range (T : Int × Int → Int × Int → Int) (f : Cs) (n : Nat) : ∀ m, m ≤ n → sumC T f n (List.range m) = sumT T f n m
  | 0, _ => rfl
  | m + 1, h => by rw [List.range_succ, sumC_snoc, sumC_range T f n m (by omega), Nat.mod_eq_of_lt (show m < n by omega)]; rfl

theorem Has.owned {X Y : World} {g : Nat} {t : TypeId} {cs : Array Value} {row : Option Nat} (h : Has X g t cs) (hg : X.grownBy Y row) (hr : ∀ r, row = some r → ∃ o : Obj, X.heap[r]? = some o ∧ o.isCells = false) : Has Y g t cs :=
  (hg.block g h.here (fun e => by
    obtain ⟨o, ho, hc⟩ := hr g e.symm
    obtain rfl := Option.some.inj (ho.symm.trans h)
    cases hc)).trans h
theorem sumC_i64 (T : Int × Int → Int × Int → Int) (f : Cs) (n : Nat) (l : List Nat) : I64 (sumC T f n l) := by
  rcases List.eq_nil_or_concat l with rfl | ⟨l', x, rfl⟩
  · unfold sumC I64; simp
  · rw [List.concat_eq_append, sumC_snoc]; exact i64_add _ _
theorem wide_fn (k : Nat) : Fence.wide.fn k = True := rfl
attribute [local go_sem] wide_fn

set_option maxRecDepth 100000 in
set_option maxHeartbeats 2000000 in
theorem area_is (K R : Int) (b off n cap : Nat) (f : Cs) (w : World) (hK : K ≠ 1) (h0 : 0 < n) (h8 : n ≤ 8) (hP : Pts w b off n f) (hi : Cin f n) :
    Calls Tryz.prog 59 #[shapeV K R (.slice (some ⟨b, off, none⟩) n cap)] w fun e w' => e = .returned (.int .i64 (sumT areaT f n n)) ∧ Below w.heap.size w w' := by
  have HP := hid hP
  have HI := hid hi
  have hb : b < w.heap.size := World.block_lt_of_cell? _ _ (hP 0 h0).1
  have HB := hid hb
  clear hP hi hb
  refine (callsIn_wide (n := 6)).1 ?_
  refine callsIn_of_wp_marks Tryz.func59 rfl trivial ?_ rfl
  simp only [Tryz.ntmps59, List.size_toArray, List.length_cons, List.length_nil, Nat.reduceAdd, Nat.reduceSub, Array.replicate_succ, Array.replicate_zero, List.push_toArray, List.append_toArray, List.nil_append, List.cons_append]
  gi_wp2_with (gi_at_call 94; refine (sides_in Fence.wide _ trivial rfl _ _ _ _).mono ?_; rintro e w' ⟨rfl, rfl⟩)
  obtain ⟨W0, hW0⟩ : ∃ W0, W0 = ((w.alloc (.cells #[.int .i64 K, .int .i64 R, .slice (some ⟨b, off, none⟩) n cap] 27)).alloc (.cells #[.int .i64 0] 22)).alloc (.cells #[.slice (some ⟨b, off, none⟩) n cap] 25) := ⟨_, rfl⟩
  have bS : Boxed W0 (w.heap.size + 1) 22 (.int .i64 0) := by
    rw [hW0]
    have := (Boxed.new (w.alloc (.cells #[.int .i64 K, .int .i64 R, .slice (some ⟨b, off, none⟩) n cap] 27)) 22 (.int .i64 0)).alloc (.cells #[.slice (some ⟨b, off, none⟩) n cap] 25)
    rwa [World.size_alloc] at this
  have bN : Boxed W0 (w.heap.size + 1 + 1) 25 (.slice (some ⟨b, off, none⟩) n cap) := by
    rw [hW0]
    have := Boxed.new ((w.alloc (.cells #[.int .i64 K, .int .i64 R, .slice (some ⟨b, off, none⟩) n cap] 27)).alloc (.cells #[.int .i64 0] 22)) 25 (.slice (some ⟨b, off, none⟩) n cap)
    rwa [World.size_alloc, World.size_alloc] at this
  have hB0 : Below w.heap.size w W0 := by
    rw [hW0]
    exact (((Below.refl _ w).alloc (Nat.le_refl _) _).alloc (by simp) _).alloc (by simp; omega) _
  have hsz : W0.heap.size = w.heap.size + 3 := by rw [hW0]; simp
  have P0 : Pts W0 b off n f := fun i hi => ⟨Below.reads hB0 (HP.out i hi).1, Below.reads hB0 (HP.out i hi).2⟩
  rw [← hW0]
  clear hW0
  refine wpIn_rangeFunc_ownH rfl (by omega) (gf := 127) (lb := #[.pointer (some ⟨w.heap.size + 1 + 1, 0, none⟩)]) rfl trivial (enters_of Tryz.func127 (by kernel_rfl) rfl)
    (sides1_stops Fence.wide _ trivial rfl (by omega) (w.heap.size + 1 + 1) w.heap.size b off n cap f h0 h8 W0 (by omega) (by omega) HB.out bN.cell P0) KeepB.t (KeepB.b (by omega) (by omega)) (Below.refl _ _) (fun _ => rfl)
    (fun pre W => (Boxed W (w.heap.size + 1) 22 (.int .i64 (sumC areaT f n pre)) ∧ w.heap.size + 1 + 1 < W.heap.size) ∧ Below w.heap.size w W)
    (fun _ _ _ => False)
    (OwnFrom.and (OwnFrom.and (Own.from (boxed_own _ _ _) _) (fun _ _ _ _ hs hg _ => Nat.lt_of_lt_of_le hs hg.size)) (ownFrom_below (Nat.le_refl _) (by omega)))
    (fun _ _ _ _ _ hs _ _ => hs)
    ⟨⟨bS, by omega⟩, hB0⟩
    (fun x a' W => ∃ Ba Bb, w.heap.size + 1 + 1 < Ba ∧ w.heap.size + 1 + 1 < Bb ∧ Has W Ba 24 #[.int .i64 (f (x % n)).1, .int .i64 (f (x % n)).2] ∧ Has W Bb 24 #[.int .i64 (f ((x + 1) % n)).1, .int .i64 (f ((x + 1) % n)).2] ∧
      a' = { tmps := #[shapeV K R (.slice (some ⟨b, off, none⟩) n cap), .pointer (some ⟨w.heap.size, 0, none⟩), .int .i64 0, .pointer (some ⟨w.heap.size + 1, 0, none⟩), .pointer (some ⟨Ba, 0, none⟩), .pointer (some ⟨Bb, 0, none⟩), .pointer (some ⟨w.heap.size, 0, none⟩), .int .i64 K, .bool false, undef, undef, undef, undef, undef, undef, .pointer (some ⟨w.heap.size, 2, none⟩), .slice (some ⟨b, off, none⟩) n cap, .func (.func 127) #[] #[.pointer (some ⟨w.heap.size + 1 + 1, 0, none⟩)], vecV (f (x % n)).1 (f (x % n)).2, vecV (f ((x + 1) % n)).1 (f ((x + 1) % n)).2, undef, undef, undef, undef, undef, undef, undef, undef], defers := [] })
    (fun x a' _ X Y row hs hg hr => by
      obtain ⟨Ba, Bb, h1, h2, h3, h4, h5⟩ := hs
      exact ⟨Ba, Bb, h1, h2, h3.owned hg (fun r e => (hr r e).2), h4.owned hg (fun r e => (hr r e).2), h5⟩)
    ?assign ?body ?done ?stop
  case assign =>
    rintro l pre x W K ⟨⟨bS1, bN1⟩, hB1⟩ hK
    gi_wp2
    have hsW := hB1.size
    have kA : Below W.heap.size W ((W.alloc (.cells #[.int .i64 (f (x % n)).1, .int .i64 (f (x % n)).2] 24)).alloc (.cells #[.int .i64 (f ((x + 1) % n)).1, .int .i64 (f ((x + 1) % n)).2] 24)) := ((Below.refl _ W).alloc (Nat.le_refl _) _).alloc (by simp) _
    have hS := bS1.lt
    refine hK _ _ (keepsFrom_of_below kA) ⟨kA.mono hsW, kA.block _ ?_⟩ ⟨⟨(bS1.alloc _).alloc _, Nat.lt_of_lt_of_le bN1 kA.size⟩, hB1.trans (kA.mono hsW)⟩ ⟨W.heap.size, W.heap.size + 1, ?_, ?_, (has_new W _ _).more _, ?_, rfl⟩
    · omega
    · omega
    · omega
    · have := has_new (W.alloc (.cells #[.int .i64 (f (x % n)).1, .int .i64 (f (x % n)).2] 24)) 24 #[.int .i64 (f ((x + 1) % n)).1, .int .i64 (f ((x + 1) % n)).2]
      rwa [World.size_alloc] at this
  case body =>
    rintro l pre x a' W hl ⟨r, hr⟩ ⟨⟨bS1, bN1⟩, hB1⟩ ⟨Ba, Bb, hBa, hBb, hA, hB, rfl⟩ hlt
    have hx : x % n < n := Nat.mod_lt _ h0
    have hy : (x + 1) % n < n := Nat.mod_lt _ h0
    obtain ⟨i0, i1⟩ := HI.out _ hx
    obtain ⟨i2, i3⟩ := HI.out _ hy
    have HX := hid (sumC_snoc areaT f n pre x)
    obtain ⟨S, eS⟩ : ∃ S, sumC areaT f n pre = S := ⟨_, rfl⟩
    obtain ⟨p, ep⟩ : ∃ p, f (x % n) = p := ⟨_, rfl⟩
    obtain ⟨q, eq⟩ : ∃ q, f ((x + 1) % n) = q := ⟨_, rfl⟩
    have iS : I64 S := by rw [← eS]; exact sumC_i64 areaT f n pre
    rw [eS, ep, eq] at HX
    rw [eS] at bS1
    rw [ep] at hA i0 i1
    rw [eq] at hB i2 i3
    simp only [ep, eq]
    have cS := bS1.cell
    have fS := bS1.frozen
    have a0 := hA.at_ 0
    have a1 := hA.at_ 1
    have b0 := hB.at_ 0
    have b1 := hB.at_ 1
    have io2 : I64 2 := by unfold I64; omega
    have EO2 := hid (show ofF 2 = 8589934592 by kernel_rfl)
    gi_wp2
    refine regIn_below_tail 7 (by kernel_rfl) (by kernel_rfl) (by kernel_rfl) ?_
    intro T hT fw hf
    have s0 := hf.reads cS
    have p0 := hf.reads a0
    have p1 := hf.reads a1
    have q0 := hf.reads b0
    have q1 := hf.reads b1
    simp only [List.take_succ_cons, List.take_zero, List.drop_succ_cons, List.drop_zero]
    repeat (gi_big_quiet_step ((first | (gi_at_call 95; with_reducible exact inRound l (hf.made (vcross_c _ _ _ _ _ i0 i1 i2 i3))) | (gi_at_call 61; with_reducible exact inRound l (hf.drawn (div_c _ _ _ (i64_sub _ _) (by unfold I64; omega)))) | (gi_at_call 96; with_reducible exact inRound l (hf.same (of_is 2 8589934592 _ io2 EO2.out))) | (gi_at_call 27; with_reducible exact inRound l (hf.same (add_c _ _ _ iS (i64_div _ _)))))))
    refine wpQuietIn_nil ?_
    intro w3 h3
    have k3 := hf.here h3
    have bS3 : Boxed w3 (w.heap.size + 1) 22 (.int .i64 S) := (k3.block _ bS1.lt).trans bS1
    have cS3 := bS3.cell
    have fS3 := bS3.frozen
    have k4 := (k3.mono hB1.size).setCell (p := ⟨w.heap.size + 1, 0, none⟩) (by simp) (.int .i64 (addF S (areaT p q)))
    have HK4 := hid k4
    have HK3 := hid k3
    have HB1 := hid hB1
    have HS3 := hid bS3
    have HN := hid bN1
    clear cS fS s0 p0 p1 q0 q1 hf h3 k4 k3 hB1 bS3 bS1 bN1
    gi_wp2
    refine ⟨(keepsFrom_of_below HK3.out).trans ((KeepsOthers.setCell _ _ _).from _), ⟨HK4.out, ?_⟩, ⟨?_, Nat.lt_of_lt_of_le HN.out HK4.out.size⟩, HB1.out.trans HK4.out⟩
    · exact (Below.heap_setCell _ _ _ _ (by simp)).trans (HK3.out.block _ HN.out)
    · rw [HX.out]
      exact HS3.out.set _
  case done =>
    rintro D ys W hD rfl ⟨⟨bS1, _⟩, hB1⟩ hK
    have cS := bS1.cell
    gi_wp2
    refine ⟨by simp, .inl ⟨_, _, rfl, run_takeDeferred hK, ?_⟩⟩
    exact ⟨_, results_tmp rfl _ _ _, by rw [sumC_range areaT f n n (Nat.le_refl n)]; rfl, hB1.trans (belowK_b (w := w) (Nat.le_refl _) W D _ _ (by omega) hK rfl rfl)⟩
  case stop =>
    rintro D c pre W _ _ h _
    exact h.elim
end Go.Proofs.YtfncelifflebbaaGreat.Fx

