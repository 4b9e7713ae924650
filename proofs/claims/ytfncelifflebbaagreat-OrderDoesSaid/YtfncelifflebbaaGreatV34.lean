/- MassF MassG MassH -/
import Derived.Test.YtfncelifflebbaaGreatV1
import Derived.Test.YtfncelifflebbaaGreatV3
import Derived.Test.YtfncelifflebbaaGreatV4
import Derived.Test.YtfncelifflebbaaGreatV5
import Derived.Test.YtfncelifflebbaaGreatV33

/- Area of package mass. -/




namespace Go.Proofs.YtfncelifflebbaaGreat.Fx
open Go.ChangeShapes Go.WideShapes Go.ChangeAt Go.RowKit
set_option linter.unusedVariables false
attribute [local go_sem] Oper.semAt_some

def sumC (T : Int × Int → Int × Int → Int) (f : Cs) (n : Nat) (l : List Nat) : Int := l.foldl (fun s k => addF s (T (f (k % n)) (f ((k + 1) % n)))) 0
theorem sumC_snoc (T : Int × Int → Int × Int → Int) (f : Cs) (n : Nat) (l : List Nat) (x : Nat) : sumC T f n (l ++ [x]) = addF (sumC T f n l) (T (f (x % n)) (f ((x + 1) % n))) := by simp [sumC]
theorem sumC_range (T : Int × Int → Int × Int → Int) (f : Cs) (n : Nat) : ∀ m, m ≤ n → sumC T f n (List.range m) = sumT T f n m
  | 0, _ => rfl
  | m + 1, h => by rw [List.range_succ, sumC_snoc, sumC_range T f n m (by omega), Nat.mod_eq_of_lt (show m < n by omega)]; rfl

theorem Has.owned {X Y : World} {g : Nat} {t : TypeId} {cs : Array Value} {row : Option Nat} (h : Has X g t cs) (hg : X.grownBy Y row) (hr : ∀ r, row = some r → ∃ o : Obj, X.heap[r]? = some o ∧ o.isCells = false) : Has Y g t cs :=
  (hg.block g h.here (fun e => by
    obtain ⟨o, ho, hc⟩ := hr g e.symm
    obtain rfl := Option.some.inj (ho.symm.trans h)
    cases hc)).trans h
theorem sumC_i64 (T : Int × Int → Int × Int → Int) (f : Cs) (n : Nat) (l : List Nat) : I64 (sumC T f n l) := by
  rcases List.eq_nil_or_concat l with rfl | ⟨l', x, rfl⟩
  · unfold sumC I64; simp
  · rw [List.concat_eq_append, sumC_snoc]; exact i64_add _ _
theorem wide_fn (k : Nat) : Fence.wide.fn k = True := rfl
attribute [local go_sem] wide_fn

set_option maxRecDepth 100000 in
set_option maxHeartbeats 2000000 in
theorem area_is (K R : Int) (b off n cap : Nat) (f : Cs) (w : World) (hK : K ≠ 1) (h0 : 0 < n) (h8 : n ≤ 8) (hP : Pts w b off n f) (hi : Cin f n) :
    Calls Tryz.prog 59 #[shapeV K R (.slice (some ⟨b, off, none⟩) n cap)] w fun e w' => e = .returned (.int .i64 (sumT areaT f n n)) ∧ Below w.heap.size w w' := by
  have HP := hid hP
  have HI := hid hi
  have hb : b < w.heap.size := World.block_lt_of_cell? _ _ (hP 0 h0).1
  have HB := hid hb
  clear hP hi hb
  refine (callsIn_wide (n := 6)).1 ?_
  refine callsIn_of_wp_marks Tryz.func59 rfl trivial ?_ rfl
  simp only [Tryz.ntmps59, List.size_toArray, List.length_cons, List.length_nil, Nat.reduceAdd, Nat.reduceSub, Array.replicate_succ, Array.replicate_zero, List.push_toArray, List.append_toArray, List.nil_append, List.cons_append]
  gi_wp2_with (gi_at_call 94; refine (sides_in Fence.wide _ trivial rfl _ _ _ _).mono ?_; rintro e w' ⟨rfl, rfl⟩)
  obtain ⟨W0, hW0⟩ : ∃ W0, W0 = ((w.alloc (.cells #[.int .i64 K, .int .i64 R, .slice (some ⟨b, off, none⟩) n cap] 27)).alloc (.cells #[.int .i64 0] 22)).alloc (.cells #[.slice (some ⟨b, off, none⟩) n cap] 25) := ⟨_, rfl⟩
  have bS : Boxed W0 (w.heap.size + 1) 22 (.int .i64 0) := by
    rw [hW0]
    have := (Boxed.new (w.alloc (.cells #[.int .i64 K, .int .i64 R, .slice (some ⟨b, off, none⟩) n cap] 27)) 22 (.int .i64 0)).alloc (.cells #[.slice (some ⟨b, off, none⟩) n cap] 25)
    rwa [World.size_alloc] at this
  have bN : Boxed W0 (w.heap.size + 1 + 1) 25 (.slice (some ⟨b, off, none⟩) n cap) := by
    rw [hW0]
    have := Boxed.new ((w.alloc (.cells #[.int .i64 K, .int .i64 R, .slice (some ⟨b, off, none⟩) n cap] 27)).alloc (.cells #[.int .i64 0] 22)) 25 (.slice (some ⟨b, off, none⟩) n cap)
    rwa [World.size_alloc, World.size_alloc] at this
  have hB0 : Below w.heap.size w W0 := by
    rw [hW0]
    exact (((Below.refl _ w).alloc (Nat.le_refl _) _).alloc (by simp) _).alloc (by simp; omega) _
  have hsz : W0.heap.size = w.heap.size + 3 := by rw [hW0]; simp
  have P0 : Pts W0 b off n f := fun i hi => ⟨Below.reads hB0 (HP.out i hi).1, Below.reads hB0 (HP.out i hi).2⟩
  rw [← hW0]
  clear hW0
  refine wpIn_rangeFunc_ownH rfl (by omega) (gf := 127) (lb := #[.pointer (some ⟨w.heap.size + 1 + 1, 0, none⟩)]) rfl trivial (enters_of Tryz.func127 (by kernel_rfl) rfl)
    (sides1_stops Fence.wide _ trivial rfl (by omega) (w.heap.size + 1 + 1) w.heap.size b off n cap f h0 h8 W0 (by omega) (by omega) HB.out bN.cell P0) KeepB.t (KeepB.b (by omega) (by omega)) (Below.refl _ _) (fun _ => rfl)
    (fun pre W => (Boxed W (w.heap.size + 1) 22 (.int .i64 (sumC areaT f n pre)) ∧ w.heap.size + 1 + 1 < W.heap.size) ∧ Below w.heap.size w W)
    (fun _ _ _ => False)
    (OwnFrom.and (OwnFrom.and (Own.from (boxed_own _ _ _) _) (fun _ _ _ _ hs hg _ => Nat.lt_of_lt_of_le hs hg.size)) (ownFrom_below (Nat.le_refl _) (by omega)))
    (fun _ _ _ _ _ hs _ _ => hs)
    ⟨⟨bS, by omega⟩, hB0⟩
    (fun x a' W => ∃ Ba Bb, w.heap.size + 1 + 1 < Ba ∧ w.heap.size + 1 + 1 < Bb ∧ Has W Ba 24 #[.int .i64 (f (x % n)).1, .int .i64 (f (x % n)).2] ∧ Has W Bb 24 #[.int .i64 (f ((x + 1) % n)).1, .int .i64 (f ((x + 1) % n)).2] ∧
      a' = { tmps := #[shapeV K R (.slice (some ⟨b, off, none⟩) n cap), .pointer (some ⟨w.heap.size, 0, none⟩), .int .i64 0, .pointer (some ⟨w.heap.size + 1, 0, none⟩), .pointer (some ⟨Ba, 0, none⟩), .pointer (some ⟨Bb, 0, none⟩), .pointer (some ⟨w.heap.size, 0, none⟩), .int .i64 K, .bool false, undef, undef, undef, undef, undef, undef, .pointer (some ⟨w.heap.size, 2, none⟩), .slice (some ⟨b, off, none⟩) n cap, .func (.func 127) #[] #[.pointer (some ⟨w.heap.size + 1 + 1, 0, none⟩)], vecV (f (x % n)).1 (f (x % n)).2, vecV (f ((x + 1) % n)).1 (f ((x + 1) % n)).2, undef, undef, undef, undef, undef, undef, undef, undef], defers := [] })
    (fun x a' _ X Y row hs hg hr => by
      obtain ⟨Ba, Bb, h1, h2, h3, h4, h5⟩ := hs
      exact ⟨Ba, Bb, h1, h2, h3.owned hg (fun r e => (hr r e).2), h4.owned hg (fun r e => (hr r e).2), h5⟩)
    ?assign ?body ?done ?stop
  case assign =>
    rintro l pre x W K ⟨⟨bS1, bN1⟩, hB1⟩ hK
    gi_wp2
    have hsW := hB1.size
    have kA : Below W.heap.size W ((W.alloc (.cells #[.int .i64 (f (x % n)).1, .int .i64 (f (x % n)).2] 24)).alloc (.cells #[.int .i64 (f ((x + 1) % n)).1, .int .i64 (f ((x + 1) % n)).2] 24)) := ((Below.refl _ W).alloc (Nat.le_refl _) _).alloc (by simp) _
    have hS := bS1.lt
    refine hK _ _ (keepsFrom_of_below kA) ⟨kA.mono hsW, kA.block _ ?_⟩ ⟨⟨(bS1.alloc _).alloc _, Nat.lt_of_lt_of_le bN1 kA.size⟩, hB1.trans (kA.mono hsW)⟩ ⟨W.heap.size, W.heap.size + 1, ?_, ?_, (has_new W _ _).more _, ?_, rfl⟩
    · omega
    · omega
    · omega
    · have := has_new (W.alloc (.cells #[.int .i64 (f (x % n)).1, .int .i64 (f (x % n)).2] 24)) 24 #[.int .i64 (f ((x + 1) % n)).1, .int .i64 (f ((x + 1) % n)).2]
      rwa [World.size_alloc] at this
  case body =>
    rintro l pre x a' W hl ⟨r, hr⟩ ⟨⟨bS1, bN1⟩, hB1⟩ ⟨Ba, Bb, hBa, hBb, hA, hB, rfl⟩ hlt
    have hx : x % n < n := Nat.mod_lt _ h0
    have hy : (x + 1) % n < n := Nat.mod_lt _ h0
    obtain ⟨i0, i1⟩ := HI.out _ hx
    obtain ⟨i2, i3⟩ := HI.out _ hy
    have HX := hid (sumC_snoc areaT f n pre x)
    obtain ⟨S, eS⟩ : ∃ S, sumC areaT f n pre = S := ⟨_, rfl⟩
    obtain ⟨p, ep⟩ : ∃ p, f (x % n) = p := ⟨_, rfl⟩
    obtain ⟨q, eq⟩ : ∃ q, f ((x + 1) % n) = q := ⟨_, rfl⟩
    have iS : I64 S := by rw [← eS]; exact sumC_i64 areaT f n pre
    rw [eS, ep, eq] at HX
    rw [eS] at bS1
    rw [ep] at hA i0 i1
    rw [eq] at hB i2 i3
    simp only [ep, eq]
    have cS := bS1.cell
    have fS := bS1.frozen
    have a0 := hA.at_ 0
    have a1 := hA.at_ 1
    have b0 := hB.at_ 0
    have b1 := hB.at_ 1
    have io2 : I64 2 := by unfold I64; omega
    have EO2 := hid (show ofF 2 = 8589934592 by kernel_rfl)
    gi_wp2
    refine regIn_below_tail 7 (by kernel_rfl) (by kernel_rfl) (by kernel_rfl) ?_
    intro T hT fw hf
    have s0 := hf.reads cS
    have p0 := hf.reads a0
    have p1 := hf.reads a1
    have q0 := hf.reads b0
    have q1 := hf.reads b1
    simp only [List.take_succ_cons, List.take_zero, List.drop_succ_cons, List.drop_zero]
    repeat (gi_big_quiet_step ((first | (gi_at_call 95; with_reducible exact inRound l (hf.made (vcross_c _ _ _ _ _ i0 i1 i2 i3))) | (gi_at_call 61; with_reducible exact inRound l (hf.drawn (div_c _ _ _ (i64_sub _ _) (by unfold I64; omega)))) | (gi_at_call 96; with_reducible exact inRound l (hf.same (of_is 2 8589934592 _ io2 EO2.out))) | (gi_at_call 27; with_reducible exact inRound l (hf.same (add_c _ _ _ iS (i64_div _ _)))))))
    refine wpQuietIn_nil ?_
    intro w3 h3
    have k3 := hf.here h3
    have bS3 : Boxed w3 (w.heap.size + 1) 22 (.int .i64 S) := (k3.block _ bS1.lt).trans bS1
    have cS3 := bS3.cell
    have fS3 := bS3.frozen
    have k4 := (k3.mono hB1.size).setCell (p := ⟨w.heap.size + 1, 0, none⟩) (by simp) (.int .i64 (addF S (areaT p q)))
    have HK4 := hid k4
    have HK3 := hid k3
    have HB1 := hid hB1
    have HS3 := hid bS3
    have HN := hid bN1
    clear cS fS s0 p0 p1 q0 q1 hf h3 k4 k3 hB1 bS3 bS1 bN1
    gi_wp2
    refine ⟨(keepsFrom_of_below HK3.out).trans ((KeepsOthers.setCell _ _ _).from _), ⟨HK4.out, ?_⟩, ⟨?_, Nat.lt_of_lt_of_le HN.out HK4.out.size⟩, HB1.out.trans HK4.out⟩
    · exact (Below.heap_setCell _ _ _ _ (by simp)).trans (HK3.out.block _ HN.out)
    · rw [HX.out]
      exact HS3.out.set _
  case done =>
    rintro D ys W hD rfl ⟨⟨bS1, _⟩, hB1⟩ hK
    have cS := bS1.cell
    gi_wp2
    refine ⟨by simp, .inl ⟨_, _, rfl, run_takeDeferred hK, ?_⟩⟩
    exact ⟨_, results_tmp rfl _ _ _, by rw [sumC_range areaT f n n (Nat.le_refl n)]; rfl, hB1.trans (belowK_b (w := w) (Nat.le_refl _) W D _ _ (by omega) hK rfl rfl)⟩
  case stop =>
    rintro D c pre W _ _ h _
    exact h.elim
end Go.Proofs.YtfncelifflebbaaGreat.Fx


/- Round of package mass, of a polygon. -/




namespace Go.Proofs.YtfncelifflebbaaGreat.Fx
open Go.ChangeShapes Go.WideShapes Go.ChangeAt Go.RowKit
set_option linter.unusedVariables false
attribute [local go_sem] Oper.semAt_some wide_fn

set_option maxRecDepth 100000 in
set_option maxHeartbeats 2000000 in
theorem round_is (K R : Int) (b off n cap : Nat) (f : Cs) (w : World) (hK : K ≠ 1) (h0 : 0 < n) (h8 : n ≤ 8) (hP : Pts w b off n f) (hi : Cin f n) :
    Calls Tryz.prog 60 #[shapeV K R (.slice (some ⟨b, off, none⟩) n cap)] w fun e w' => e = .returned (.int .i64 (sumT roundT f n n)) ∧ Below w.heap.size w w' := by
  have HP := hid hP
  have HI := hid hi
  have hb : b < w.heap.size := World.block_lt_of_cell? _ _ (hP 0 h0).1
  have HB := hid hb
  clear hP hi hb
  refine (callsIn_wide (n := 6)).1 ?_
  refine callsIn_of_wp_marks Tryz.func60 rfl trivial ?_ rfl
  simp only [Tryz.ntmps60, List.size_toArray, List.length_cons, List.length_nil, Nat.reduceAdd, Nat.reduceSub, Array.replicate_succ, Array.replicate_zero, List.push_toArray, List.append_toArray, List.nil_append, List.cons_append]
  gi_wp2_with (gi_at_call 94; refine (sides_in Fence.wide _ trivial rfl _ _ _ _).mono ?_; rintro e w' ⟨rfl, rfl⟩)
  obtain ⟨W0, hW0⟩ : ∃ W0, W0 = ((w.alloc (.cells #[.int .i64 K, .int .i64 R, .slice (some ⟨b, off, none⟩) n cap] 27)).alloc (.cells #[.int .i64 0] 22)).alloc (.cells #[.slice (some ⟨b, off, none⟩) n cap] 25) := ⟨_, rfl⟩
  have bS : Boxed W0 (w.heap.size + 1) 22 (.int .i64 0) := by
    rw [hW0]
    have := (Boxed.new (w.alloc (.cells #[.int .i64 K, .int .i64 R, .slice (some ⟨b, off, none⟩) n cap] 27)) 22 (.int .i64 0)).alloc (.cells #[.slice (some ⟨b, off, none⟩) n cap] 25)
    rwa [World.size_alloc] at this
  have bN : Boxed W0 (w.heap.size + 1 + 1) 25 (.slice (some ⟨b, off, none⟩) n cap) := by
    rw [hW0]
    have := Boxed.new ((w.alloc (.cells #[.int .i64 K, .int .i64 R, .slice (some ⟨b, off, none⟩) n cap] 27)).alloc (.cells #[.int .i64 0] 22)) 25 (.slice (some ⟨b, off, none⟩) n cap)
    rwa [World.size_alloc, World.size_alloc] at this
  have hB0 : Below w.heap.size w W0 := by
    rw [hW0]
    exact (((Below.refl _ w).alloc (Nat.le_refl _) _).alloc (by simp) _).alloc (by simp; omega) _
  have hsz : W0.heap.size = w.heap.size + 3 := by rw [hW0]; simp
  have P0 : Pts W0 b off n f := fun i hi => ⟨Below.reads hB0 (HP.out i hi).1, Below.reads hB0 (HP.out i hi).2⟩
  rw [← hW0]
  clear hW0
  refine wpIn_rangeFunc_ownH rfl (by omega) (gf := 127) (lb := #[.pointer (some ⟨w.heap.size + 1 + 1, 0, none⟩)]) rfl trivial (enters_of Tryz.func127 (by kernel_rfl) rfl)
    (sides1_stops Fence.wide _ trivial rfl (by omega) (w.heap.size + 1 + 1) w.heap.size b off n cap f h0 h8 W0 (by omega) (by omega) HB.out bN.cell P0) KeepB.t (KeepB.b (by omega) (by omega)) (Below.refl _ _) (fun _ => rfl)
    (fun pre W => (Boxed W (w.heap.size + 1) 22 (.int .i64 (sumC roundT f n pre)) ∧ w.heap.size + 1 + 1 < W.heap.size) ∧ Below w.heap.size w W)
    (fun _ _ _ => False)
    (OwnFrom.and (OwnFrom.and (Own.from (boxed_own _ _ _) _) (fun _ _ _ _ hs hg _ => Nat.lt_of_lt_of_le hs hg.size)) (ownFrom_below (Nat.le_refl _) (by omega)))
    (fun _ _ _ _ _ hs _ _ => hs)
    ⟨⟨bS, by omega⟩, hB0⟩
    (fun x a' W => ∃ Ba Bb, w.heap.size + 1 + 1 < Ba ∧ w.heap.size + 1 + 1 < Bb ∧ Has W Ba 24 #[.int .i64 (f (x % n)).1, .int .i64 (f (x % n)).2] ∧ Has W Bb 24 #[.int .i64 (f ((x + 1) % n)).1, .int .i64 (f ((x + 1) % n)).2] ∧
      a' = { tmps := #[shapeV K R (.slice (some ⟨b, off, none⟩) n cap), .pointer (some ⟨w.heap.size, 0, none⟩), .int .i64 0, .pointer (some ⟨w.heap.size + 1, 0, none⟩), .pointer (some ⟨Ba, 0, none⟩), .pointer (some ⟨Bb, 0, none⟩), undef, .pointer (some ⟨w.heap.size, 0, none⟩), .int .i64 K, .bool false, undef, undef, undef, undef, undef, undef, undef, undef, undef, undef, .pointer (some ⟨w.heap.size, 2, none⟩), .slice (some ⟨b, off, none⟩) n cap, .func (.func 127) #[] #[.pointer (some ⟨w.heap.size + 1 + 1, 0, none⟩)], vecV (f (x % n)).1 (f (x % n)).2, vecV (f ((x + 1) % n)).1 (f ((x + 1) % n)).2, undef, undef, undef, undef, undef, undef, undef, undef, undef, undef, undef, undef, undef, undef, undef, undef, undef, undef, undef, undef, undef], defers := [] })
    (fun x a' _ X Y row hs hg hr => by
      obtain ⟨Ba, Bb, h1, h2, h3, h4, h5⟩ := hs
      exact ⟨Ba, Bb, h1, h2, h3.owned hg (fun r e => (hr r e).2), h4.owned hg (fun r e => (hr r e).2), h5⟩)
    ?assign ?body ?done ?stop
  case assign =>
    rintro l pre x W K ⟨⟨bS1, bN1⟩, hB1⟩ hK
    gi_wp2
    have hsW := hB1.size
    have kA : Below W.heap.size W ((W.alloc (.cells #[.int .i64 (f (x % n)).1, .int .i64 (f (x % n)).2] 24)).alloc (.cells #[.int .i64 (f ((x + 1) % n)).1, .int .i64 (f ((x + 1) % n)).2] 24)) := ((Below.refl _ W).alloc (Nat.le_refl _) _).alloc (by simp) _
    have hS := bS1.lt
    refine hK _ _ (keepsFrom_of_below kA) ⟨kA.mono hsW, kA.block _ ?_⟩ ⟨⟨(bS1.alloc _).alloc _, Nat.lt_of_lt_of_le bN1 kA.size⟩, hB1.trans (kA.mono hsW)⟩ ⟨W.heap.size, W.heap.size + 1, ?_, ?_, (has_new W _ _).more _, ?_, rfl⟩
    · omega
    · omega
    · omega
    · have := has_new (W.alloc (.cells #[.int .i64 (f (x % n)).1, .int .i64 (f (x % n)).2] 24)) 24 #[.int .i64 (f ((x + 1) % n)).1, .int .i64 (f ((x + 1) % n)).2]
      rwa [World.size_alloc] at this
  case body =>
    rintro l pre x a' W hl ⟨r, hr⟩ ⟨⟨bS1, bN1⟩, hB1⟩ ⟨Ba, Bb, hBa, hBb, hA, hB, rfl⟩ hlt
    have hx : x % n < n := Nat.mod_lt _ h0
    have hy : (x + 1) % n < n := Nat.mod_lt _ h0
    obtain ⟨i0, i1⟩ := HI.out _ hx
    obtain ⟨i2, i3⟩ := HI.out _ hy
    have HX := hid (sumC_snoc roundT f n pre x)
    obtain ⟨S, eS⟩ : ∃ S, sumC roundT f n pre = S := ⟨_, rfl⟩
    obtain ⟨p, ep⟩ : ∃ p, f (x % n) = p := ⟨_, rfl⟩
    obtain ⟨q, eq⟩ : ∃ q, f ((x + 1) % n) = q := ⟨_, rfl⟩
    have iS : I64 S := by rw [← eS]; exact sumC_i64 roundT f n pre
    rw [eS, ep, eq] at HX
    rw [eS] at bS1
    rw [ep] at hA i0 i1
    rw [eq] at hB i2 i3
    simp only [ep, eq]
    obtain ⟨p0, p1⟩ := p
    obtain ⟨q0, q1⟩ := q
    simp only [] at i0 i1 i2 i3 hA hB ⊢
    obtain ⟨u, eu⟩ : ∃ u, addF (mulF p0 p0) (mulF p1 p1) = u := ⟨_, rfl⟩
    obtain ⟨v, ev⟩ : ∃ v, addF (mulF p0 q0) (mulF p1 q1) = v := ⟨_, rfl⟩
    obtain ⟨z, ez⟩ : ∃ z, addF (mulF q0 q0) (mulF q1 q1) = z := ⟨_, rfl⟩
    obtain ⟨d, ed⟩ : ∃ d, addF (addF u v) z = d := ⟨_, rfl⟩
    obtain ⟨c, ec⟩ : ∃ c, subF (mulF p0 q1) (mulF p1 q0) = c := ⟨_, rfl⟩
    obtain ⟨m, em⟩ : ∃ m, mulF c d = m := ⟨_, rfl⟩
    obtain ⟨t, et⟩ : ∃ t, divF m 51539607552 = t := ⟨_, rfl⟩
    obtain ⟨S1, eS1⟩ : ∃ s, addF S t = s := ⟨_, rfl⟩
    have ru : Rg u := by rw [← eu]; exact rg_add _ _
    have rv : Rg v := by rw [← ev]; exact rg_add _ _
    have rz : Rg z := by rw [← ez]; exact rg_add _ _
    have id_ : I64 d := by rw [← ed]; exact i64_add _ _
    have ic : I64 c := by rw [← ec]; exact i64_sub _ _
    have im : I64 m := by rw [← em]; exact i64_mul _ _
    have it : I64 t := by rw [← et]; exact i64_div _ _
    have iG : I64 51539607552 := by unfold I64; omega
    have i12 : I64 12 := by unfold I64; omega
    have EO := hid (show ofF 12 = 51539607552 by kernel_rfl)
    have hS1 : addF S (roundT (p0, p1) (q0, q1)) = S1 := by rw [← eS1, ← et, ← em, ← ec, ← ed, ← ez, ← ev, ← eu]; rfl
    rw [hS1] at HX
    have EU := hid eu
    have EV := hid ev
    have EZ := hid ez
    have ED := hid ed
    have EC := hid ec
    have EM := hid em
    have ET := hid et
    have ES := hid eS1
    clear eu ev ez ed ec em et eS1 hS1 ep eq eS
    have cS := bS1.cell
    have a0 := hA.at_ 0
    have a1 := hA.at_ 1
    have b0 := hB.at_ 0
    have b1 := hB.at_ 1
    simp at a0 a1 b0 b1
    have HBS := hid bS1
    have HBN := hid bN1
    have HB1 := hid hB1
    clear bS1 bN1 hB1 hA hB
    gi_wp2
    refine regIn_below_tail 9 (by kernel_rfl) (by kernel_rfl) (by kernel_rfl) ?_
    intro T hT fw hf
    have x0 := hf.reads a0
    have x1 := hf.reads a1
    have y0 := hf.reads b0
    have y1 := hf.reads b1
    simp only [List.take_succ_cons, List.take_zero, List.drop_succ_cons, List.drop_zero]
    repeat (gi_big_quiet_step ((gi_at_call 98; with_reducible first | exact inRound l (hf.made (vdot_is _ _ _ _ _ _ (by assumption) (by assumption) (by assumption) (by assumption) EU.out)) | exact inRound l (hf.made (vdot_is _ _ _ _ _ _ (by assumption) (by assumption) (by assumption) (by assumption) EV.out)) | exact inRound l (hf.made (vdot_is _ _ _ _ _ _ (by assumption) (by assumption) (by assumption) (by assumption) EZ.out)))))
    refine wpQuietIn_nil ?_
    intro w3 h3
    have k3 := hf.here h3
    have cS := Below.reads k3 cS
    have a0 := Below.reads k3 a0
    have a1 := Below.reads k3 a1
    have b0 := Below.reads k3 b0
    have b1 := Below.reads k3 b1
    have HK3 := hid k3
    clear x0 x1 y0 y1 hf h3 k3
    gi_wp2_with fail
    obtain ⟨W1, eW⟩ : ∃ W1, W1 = w3.alloc (.cells #[.int .i64 u, .int .i64 v, .int .i64 z] 22) := ⟨_, rfl⟩
    have hn : Has W1 w3.heap.size 22 #[.int .i64 u, .int .i64 v, .int .i64 z] := by rw [eW]; exact has_new _ _ _
    have k1 : Below W.heap.size W W1 := by rw [eW]; exact HK3.out.alloc HK3.out.size _
    have cS : W1.cell? ⟨w.heap.size + 1, 0, none⟩ = some (.int .i64 S) := by rw [eW]; exact cell_more cS
    have a0 : W1.cell? ⟨Ba, 0, none⟩ = some (.int .i64 p0) := by rw [eW]; exact cell_more a0
    have a1 : W1.cell? ⟨Ba, 1, none⟩ = some (.int .i64 p1) := by rw [eW]; exact cell_more a1
    have b0 : W1.cell? ⟨Bb, 0, none⟩ = some (.int .i64 q0) := by rw [eW]; exact cell_more b0
    have b1 : W1.cell? ⟨Bb, 1, none⟩ = some (.int .i64 q1) := by rw [eW]; exact cell_more b1
    have HK1 := hid k1
    rw [← eW]
    clear eW k1
    refine (inRound l (sum3_is w3.heap.size 3 u v z W1 ru rv rz (hn.at_ 0) (hn.at_ 1) (hn.at_ 2) d ED.out)).mono ?_
    rintro e w' ⟨rfl, rfl⟩
    clear hn
    gi_wp2_with fail
    refine regIn_below_tail 9 (by kernel_rfl) (by kernel_rfl) (by kernel_rfl) ?_
    intro T hT fw hf
    have s0 := hf.reads cS
    have x0 := hf.reads a0
    have x1 := hf.reads a1
    have y0 := hf.reads b0
    have y1 := hf.reads b1
    simp only [List.take_succ_cons, List.take_zero, List.drop_succ_cons, List.drop_zero]
    repeat (gi_big_quiet_step ((first | (gi_at_call 95; with_reducible exact inRound l (hf.made (vcross_is _ _ _ _ _ _ i0 i1 i2 i3 EC.out))) | (gi_at_call 28; with_reducible exact inRound l (hf.same (mul_is _ _ _ _ ic id_ EM.out))) | (gi_at_call 96; with_reducible exact inRound l (hf.same (of_is 12 51539607552 _ i12 EO.out))) | (gi_at_call 61; with_reducible exact inRound l (hf.drawn (div_is _ _ _ _ im iG ET.out))) | (gi_at_call 27; with_reducible exact inRound l (hf.same (add_is _ _ _ _ iS it ES.out))))))
    refine wpQuietIn_nil ?_
    intro w4 h4
    have k4 := HK1.out.trans ((hf.here h4).mono HK1.out.size)
    have bS4 : Boxed w4 (w.heap.size + 1) 22 (.int .i64 S) := (k4.block _ HBS.out.lt).trans HBS.out
    have cS4 := bS4.cell
    have fS4 := bS4.frozen
    have k5 := (k4.mono HB1.out.size).setCell (p := ⟨w.heap.size + 1, 0, none⟩) (by simp) (.int .i64 S1)
    have HK5 := hid k5
    have HK4 := hid k4
    have HS4 := hid bS4
    clear cS s0 x0 x1 y0 y1 hf h4 k4 k5 bS4 a0 a1 b0 b1
    gi_wp2_with fail
    refine ⟨(keepsFrom_of_below HK4.out).trans ((KeepsOthers.setCell _ _ _).from _), ⟨HK5.out, ?_⟩, ⟨?_, Nat.lt_of_lt_of_le HBN.out HK5.out.size⟩, HB1.out.trans HK5.out⟩
    · exact (Below.heap_setCell _ _ _ _ (by simp)).trans (HK4.out.block _ HBN.out)
    · rw [HX.out]
      exact HS4.out.set _
  case done =>
    rintro D ys W hD rfl ⟨⟨bS1, _⟩, hB1⟩ hK
    have cS := bS1.cell
    gi_wp2
    refine ⟨by simp, .inl ⟨_, _, rfl, run_takeDeferred hK, ?_⟩⟩
    exact ⟨_, results_tmp rfl _ _ _, by rw [sumC_range roundT f n n (Nat.le_refl n)]; rfl, hB1.trans (belowK_b (w := w) (Nat.le_refl _) W D _ _ (by omega) hK rfl rfl)⟩
  case stop =>
    rintro D c pre W _ _ h _
    exact h.elim
end Go.Proofs.YtfncelifflebbaaGreat.Fx


/- Area and Round of package mass, of a circle; Of: what a body weighs. -/


namespace Go.Proofs.YtfncelifflebbaaGreat.Fx
open Go.ChangeShapes Go.WideShapes Go.ChangeAt Go.RowKit
set_option linter.unusedVariables false

set_option maxRecDepth 100000 in
set_option maxHeartbeats 1000000 in
theorem area_circle (R r : Int) (ao : Option Addr) (n cap : Nat) (w : World) (hR : I64 R) (hr : areaC R = r) :
    Calls Tryz.prog 59 #[shapeV 1 R (.slice ao n cap)] w fun e w' => e = .returned (.int .i64 r) ∧ Made w.heap.size w w' := by
  obtain ⟨m, em⟩ : ∃ m, mulF R R = m := ⟨_, rfl⟩
  have im : I64 m := by rw [← em]; exact i64_mul _ _
  have iP : I64 13493037705 := by unfold I64; omega
  have EM := hid em
  have ER := hid (show mulF 13493037705 m = r by rw [← hr, ← em]; rfl)
  clear em hr
  go_enter Tryz.func59, Tryz.ntmps59
  go_wp2_with fail
  refine (mul_is R R m _ hR hR EM.out).mono ?_
  rintro e w' ⟨rfl, rfl⟩
  go_wp2_with fail
  refine (mul_is _ m r _ iP im ER.out).mono ?_
  rintro e w' ⟨rfl, rfl⟩
  go_wp2_with fail
  go_ret
  exact ⟨rfl, (Made.rfl_ _ _).cells (Nat.le_refl _) _ _⟩

set_option maxRecDepth 100000 in
set_option maxHeartbeats 1000000 in
theorem round_circle (R r : Int) (ao : Option Addr) (n cap : Nat) (w : World) (hR : I64 R) (hr : roundC R = r) :
    Calls Tryz.prog 60 #[shapeV 1 R (.slice ao n cap)] w fun e w' => e = .returned (.int .i64 r) ∧ Made w.heap.size w w' := by
  obtain ⟨m, em⟩ : ∃ m, mulF R R = m := ⟨_, rfl⟩
  obtain ⟨a, ea⟩ : ∃ a, areaC R = a := ⟨_, rfl⟩
  obtain ⟨p, ep⟩ : ∃ p, mulF a m = p := ⟨_, rfl⟩
  have im : I64 m := by rw [← em]; exact i64_mul _ _
  have ia : I64 a := by rw [← ea]; exact i64_mul _ _
  have ip : I64 p := by rw [← ep]; exact i64_mul _ _
  have iG : I64 8589934592 := by unfold I64; omega
  have i2 : I64 2 := by unfold I64; omega
  have EO := hid (show ofF 2 = 8589934592 by kernel_rfl)
  have ER := hid (show divF p 8589934592 = r by rw [← hr, ← ep, ← ea, ← em]; rfl)
  have EM := hid em
  have EA := hid ea
  have EP := hid ep
  clear em ea ep hr
  go_enter Tryz.func60, Tryz.ntmps60
  go_wp2_with fail
  refine reg_made (by kernel_rfl) (by kernel_rfl) ?_
  intro T hT fw hf
  have x0 := Class.reads hf (p := ⟨w.heap.size, 0, none⟩) (u := .int .i64 1) (by go_simp)
  have x1 := Class.reads hf (p := ⟨w.heap.size, 1, none⟩) (u := .int .i64 R) (by go_simp)
  have x2 := Class.reads hf (p := ⟨w.heap.size, 2, none⟩) (u := .slice ao n cap) (by go_simp)
  repeat (go_big_quiet_step ((first | (go_at_call 59; with_reducible exact hf.made (area_circle _ _ _ _ _ _ hR EA.out)) | (go_at_call 96; with_reducible exact hf.same (of_is 2 8589934592 _ i2 EO.out)) | (go_at_call 28; with_reducible first | exact hf.same (mul_is _ _ _ _ hR hR EM.out) | exact hf.same (mul_is _ _ _ _ ia im EP.out)) | (go_at_call 61; with_reducible exact hf.drawn (div_is _ _ _ _ ip iG ER.out)))))
  refine wpQuiet_nil ?_
  intro w3 h3
  have k3 := hf.here h3
  go_wp2_with fail
  go_ret
  exact ⟨rfl, made_box k3⟩
end Go.Proofs.YtfncelifflebbaaGreat.Fx

