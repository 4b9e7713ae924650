/- Round of package mass, of a polygon. -/
import Derived.Test.YtahbnbaldoblaaaMassF
import Derived.Test.YtahbnbaldoblaaaFixes
import Derived.Test.YtahbnbaldoblaaaVecs
import Derived.Test.YtahbnbaldoblaaaMassA
namespace Go.Proofs.Ytahbnbaldoblaaa.Fx
open Go.ChangeShapes Go.WideShapes Go.ChangeAt Go.RowKit
set_option linter.unusedVariables false
attribute [local go_sem] Oper.semAt_some wide_fn

set_option maxRecDepth 100000 in
set_option maxHeartbeats 2000000 in
theorem round_is (K R : Int) (b off n cap : Nat) (f : Cs) (w : World) (hK : K ≠ 1) (h0 : 0 < n) (h8 : n ≤ 8) (hP : Pts w b off n f) (hi : Cin f n) :
    Calls Try.prog 17 #[shapeV K R (.slice (some ⟨b, off, none⟩) n cap)] w fun e w' => e = .returned (.int .i64 (sumT roundT f n n)) ∧ Below w.heap.size w w' := by
  have HP := hid hP
  have HI := hid hi
  have hb : b < w.heap.size := World.block_lt_of_cell? _ _ (hP 0 h0).1
  have HB := hid hb
  clear hP hi hb
  refine (callsIn_wide (n := 6)).1 ?_
  refine callsIn_of_wp_marks Try.func17 rfl trivial ?_ rfl
  simp only [Try.ntmps17, List.size_toArray, List.length_cons, List.length_nil, Nat.reduceAdd, Nat.reduceSub, Array.replicate_succ, Array.replicate_zero, List.push_toArray, List.append_toArray, List.nil_append, List.cons_append]
  gi_wp2_with (gi_at_call 33; refine (sides_in Fence.wide _ trivial rfl _ _ _ _).mono ?_; rintro e w' ⟨rfl, rfl⟩)
  obtain ⟨W0, hW0⟩ : ∃ W0, W0 = ((w.alloc (.cells #[.int .i64 K, .int .i64 R, .slice (some ⟨b, off, none⟩) n cap] 28)).alloc (.cells #[.int .i64 0] 24)).alloc (.cells #[.slice (some ⟨b, off, none⟩) n cap] 26) := ⟨_, rfl⟩
  have bS : Boxed W0 (w.heap.size + 1) 24 (.int .i64 0) := by
    rw [hW0]
    have := (Boxed.new (w.alloc (.cells #[.int .i64 K, .int .i64 R, .slice (some ⟨b, off, none⟩) n cap] 28)) 24 (.int .i64 0)).alloc (.cells #[.slice (some ⟨b, off, none⟩) n cap] 26)
    rwa [World.size_alloc] at this
  have bN : Boxed W0 (w.heap.size + 1 + 1) 26 (.slice (some ⟨b, off, none⟩) n cap) := by
    rw [hW0]
    have := Boxed.new ((w.alloc (.cells #[.int .i64 K, .int .i64 R, .slice (some ⟨b, off, none⟩) n cap] 28)).alloc (.cells #[.int .i64 0] 24)) 26 (.slice (some ⟨b, off, none⟩) n cap)
    rwa [World.size_alloc, World.size_alloc] at this
  have hB0 : Below w.heap.size w W0 := by
    rw [hW0]
    exact (((Below.refl _ w).alloc (Nat.le_refl _) _).alloc (by simp) _).alloc (by simp; omega) _
  have hsz : W0.heap.size = w.heap.size + 3 := by rw [hW0]; simp
  have P0 : Pts W0 b off n f := fun i hi => ⟨Below.reads hB0 (HP.out i hi).1, Below.reads hB0 (HP.out i hi).2⟩
  rw [← hW0]
  clear hW0
  refine wpIn_rangeFunc_ownH rfl (by omega) (gf := 40) (lb := #[.pointer (some ⟨w.heap.size + 1 + 1, 0, none⟩)]) rfl trivial (enters_of Try.func40 (by kernel_rfl) rfl)
    (sides1_stops Fence.wide _ trivial rfl (by omega) (w.heap.size + 1 + 1) w.heap.size b off n cap f h0 h8 W0 (by omega) (by omega) HB.out bN.cell P0) KeepB.t (KeepB.b (by omega) (by omega)) (Below.refl _ _) (fun _ => rfl)
    (fun pre W => (Boxed W (w.heap.size + 1) 24 (.int .i64 (sumC roundT f n pre)) ∧ w.heap.size + 1 + 1 < W.heap.size) ∧ Below w.heap.size w W)
    (fun _ _ _ => False)
    (OwnFrom.and (OwnFrom.and (Own.from (boxed_own _ _ _) _) (fun _ _ _ _ hs hg _ => Nat.lt_of_lt_of_le hs hg.size)) (ownFrom_below (Nat.le_refl _) (by omega)))
    (fun _ _ _ _ _ hs _ _ => hs)
    ⟨⟨bS, by omega⟩, hB0⟩
    (fun x a' W => ∃ Ba Bb, w.heap.size + 1 + 1 < Ba ∧ w.heap.size + 1 + 1 < Bb ∧ Has W Ba 34 #[.int .i64 (f (x % n)).1, .int .i64 (f (x % n)).2] ∧ Has W Bb 34 #[.int .i64 (f ((x + 1) % n)).1, .int .i64 (f ((x + 1) % n)).2] ∧
      a' = { tmps := #[shapeV K R (.slice (some ⟨b, off, none⟩) n cap), .pointer (some ⟨w.heap.size, 0, none⟩), .int .i64 0, .pointer (some ⟨w.heap.size + 1, 0, none⟩), .pointer (some ⟨Ba, 0, none⟩), .pointer (some ⟨Bb, 0, none⟩), undef, .pointer (some ⟨w.heap.size, 0, none⟩), .int .i64 K, .bool false, undef, undef, undef, undef, undef, undef, undef, undef, undef, undef, .pointer (some ⟨w.heap.size, 2, none⟩), .slice (some ⟨b, off, none⟩) n cap, .func (.func 40) #[] #[.pointer (some ⟨w.heap.size + 1 + 1, 0, none⟩)], vecV (f (x % n)).1 (f (x % n)).2, vecV (f ((x + 1) % n)).1 (f ((x + 1) % n)).2, undef, undef, undef, undef, undef, undef, undef, undef, undef, undef, undef, undef, undef, undef, undef, undef, undef, undef, undef, undef, undef], defers := [] })
    (fun x a' _ X Y row hs hg hr => by
      obtain ⟨Ba, Bb, h1, h2, h3, h4, h5⟩ := hs
      exact ⟨Ba, Bb, h1, h2, h3.owned hg (fun r e => (hr r e).2), h4.owned hg (fun r e => (hr r e).2), h5⟩)
    ?assign ?body ?done ?stop
  case assign =>
    rintro l pre x W K ⟨⟨bS1, bN1⟩, hB1⟩ hK
    gi_wp2
    have hsW := hB1.size
    have kA : Below W.heap.size W ((W.alloc (.cells #[.int .i64 (f (x % n)).1, .int .i64 (f (x % n)).2] 34)).alloc (.cells #[.int .i64 (f ((x + 1) % n)).1, .int .i64 (f ((x + 1) % n)).2] 34)) := ((Below.refl _ W).alloc (Nat.le_refl _) _).alloc (by simp) _
    have hS := bS1.lt
    refine hK _ _ (keepsFrom_of_below kA) ⟨kA.mono hsW, kA.block _ ?_⟩ ⟨⟨(bS1.alloc _).alloc _, Nat.lt_of_lt_of_le bN1 kA.size⟩, hB1.trans (kA.mono hsW)⟩ ⟨W.heap.size, W.heap.size + 1, ?_, ?_, (has_new W _ _).more _, ?_, rfl⟩
    · omega
    · omega
    · omega
    · have := has_new (W.alloc (.cells #[.int .i64 (f (x % n)).1, .int .i64 (f (x % n)).2] 34)) 34 #[.int .i64 (f ((x + 1) % n)).1, .int .i64 (f ((x + 1) % n)).2]
      rwa [World.size_alloc] at this
  case body =>
    rintro l pre x a' W hl ⟨r, hr⟩ ⟨⟨bS1, bN1⟩, hB1⟩ ⟨Ba, Bb, hBa, hBb, hA, hB, rfl⟩ hlt
    have hx : x % n < n := Nat.mod_lt _ h0
    have hy : (x + 1) % n < n := Nat.mod_lt _ h0
    obtain ⟨i0, i1⟩ := HI.out _ hx
    obtain ⟨i2, i3⟩ := HI.out _ hy
    have HX := hid (sumC_snoc roundT f n pre x)
    obtain ⟨S, eS⟩ : ∃ S, sumC roundT f n pre = S := ⟨_, rfl⟩
    obtain ⟨p, ep⟩ : ∃ p, f (x % n) = p := ⟨_, rfl⟩
    obtain ⟨q, eq⟩ : ∃ q, f ((x + 1) % n) = q := ⟨_, rfl⟩
    have iS : I64 S := by rw [← eS]; exact sumC_i64 roundT f n pre
    rw [eS, ep, eq] at HX
    rw [eS] at bS1
    rw [ep] at hA i0 i1
    rw [eq] at hB i2 i3
    simp only [ep, eq]
    obtain ⟨p0, p1⟩ := p
    obtain ⟨q0, q1⟩ := q
    simp only [] at i0 i1 i2 i3 hA hB ⊢
    obtain ⟨u, eu⟩ : ∃ u, addF (mulF p0 p0) (mulF p1 p1) = u := ⟨_, rfl⟩
    obtain ⟨v, ev⟩ : ∃ v, addF (mulF p0 q0) (mulF p1 q1) = v := ⟨_, rfl⟩
    obtain ⟨z, ez⟩ : ∃ z, addF (mulF q0 q0) (mulF q1 q1) = z := ⟨_, rfl⟩
    obtain ⟨d, ed⟩ : ∃ d, addF (addF u v) z = d := ⟨_, rfl⟩
    obtain ⟨c, ec⟩ : ∃ c, subF (mulF p0 q1) (mulF p1 q0) = c := ⟨_, rfl⟩
    obtain ⟨m, em⟩ : ∃ m, mulF c d = m := ⟨_, rfl⟩
    obtain ⟨t, et⟩ : ∃ t, divF m 51539607552 = t := ⟨_, rfl⟩
    obtain ⟨S1, eS1⟩ : ∃ s, addF S t = s := ⟨_, rfl⟩
    have ru : Rg u := by rw [← eu]; exact rg_add _ _
    have rv : Rg v := by rw [← ev]; exact rg_add _ _
    have rz : Rg z := by rw [← ez]; exact rg_add _ _
    have id_ : I64 d := by rw [← ed]; exact i64_add _ _
    have ic : I64 c := by rw [← ec]; exact i64_sub _ _
    have im : I64 m := by rw [← em]; exact i64_mul _ _
    have it : I64 t := by rw [← et]; exact i64_div _ _
    have iG : I64 51539607552 := by unfold I64; omega
    have i12 : I64 12 := by unfold I64; omega
    have EO := hid (show ofF 12 = 51539607552 by kernel_rfl)
    have hS1 : addF S (roundT (p0, p1) (q0, q1)) = S1 := by rw [← eS1, ← et, ← em, ← ec, ← ed, ← ez, ← ev, ← eu]; rfl
    rw [hS1] at HX
    have EU := hid eu
    have EV := hid ev
    have EZ := hid ez
    have ED := hid ed
    have EC := hid ec
    have EM := hid em
    have ET := hid et
    have ES := hid eS1
    clear eu ev ez ed ec em et eS1 hS1 ep eq eS
    have cS := bS1.cell
    have a0 := hA.at_ 0
    have a1 := hA.at_ 1
    have b0 := hB.at_ 0
    have b1 := hB.at_ 1
    simp at a0 a1 b0 b1
    have HBS := hid bS1
    have HBN := hid bN1
    have HB1 := hid hB1
    clear bS1 bN1 hB1 hA hB
    gi_wp2
    refine regIn_below_tail 9 (by kernel_rfl) (by kernel_rfl) (by kernel_rfl) ?_
    intro T hT fw hf
    have x0 := hf.reads a0
    have x1 := hf.reads a1
    have y0 := hf.reads b0
    have y1 := hf.reads b1
    simp only [List.take_succ_cons, List.take_zero, List.drop_succ_cons, List.drop_zero]
    repeat (gi_big_quiet_step ((gi_at_call 28; with_reducible first | exact inRound l (hf.made (vdot_is _ _ _ _ _ _ (by assumption) (by assumption) (by assumption) (by assumption) EU.out)) | exact inRound l (hf.made (vdot_is _ _ _ _ _ _ (by assumption) (by assumption) (by assumption) (by assumption) EV.out)) | exact inRound l (hf.made (vdot_is _ _ _ _ _ _ (by assumption) (by assumption) (by assumption) (by assumption) EZ.out)))))
    refine wpQuietIn_nil ?_
    intro w3 h3
    have k3 := hf.here h3
    have cS := Below.reads k3 cS
    have a0 := Below.reads k3 a0
    have a1 := Below.reads k3 a1
    have b0 := Below.reads k3 b0
    have b1 := Below.reads k3 b1
    have HK3 := hid k3
    clear x0 x1 y0 y1 hf h3 k3
    gi_wp2_with fail
    obtain ⟨W1, eW⟩ : ∃ W1, W1 = w3.alloc (.cells #[.int .i64 u, .int .i64 v, .int .i64 z] 24) := ⟨_, rfl⟩
    have hn : Has W1 w3.heap.size 24 #[.int .i64 u, .int .i64 v, .int .i64 z] := by rw [eW]; exact has_new _ _ _
    have k1 : Below W.heap.size W W1 := by rw [eW]; exact HK3.out.alloc HK3.out.size _
    have cS : W1.cell? ⟨w.heap.size + 1, 0, none⟩ = some (.int .i64 S) := by rw [eW]; exact cell_more cS
    have a0 : W1.cell? ⟨Ba, 0, none⟩ = some (.int .i64 p0) := by rw [eW]; exact cell_more a0
    have a1 : W1.cell? ⟨Ba, 1, none⟩ = some (.int .i64 p1) := by rw [eW]; exact cell_more a1
    have b0 : W1.cell? ⟨Bb, 0, none⟩ = some (.int .i64 q0) := by rw [eW]; exact cell_more b0
    have b1 : W1.cell? ⟨Bb, 1, none⟩ = some (.int .i64 q1) := by rw [eW]; exact cell_more b1
    have HK1 := hid k1
    rw [← eW]
    clear eW k1
    refine (inRound l (sum3_is w3.heap.size 3 u v z W1 ru rv rz (hn.at_ 0) (hn.at_ 1) (hn.at_ 2) d ED.out)).mono ?_
    rintro e w' ⟨rfl, rfl⟩
    clear hn
    gi_wp2_with fail
    refine regIn_below_tail 9 (by kernel_rfl) (by kernel_rfl) (by kernel_rfl) ?_
    intro T hT fw hf
    have s0 := hf.reads cS
    have x0 := hf.reads a0
    have x1 := hf.reads a1
    have y0 := hf.reads b0
    have y1 := hf.reads b1
    simp only [List.take_succ_cons, List.take_zero, List.drop_succ_cons, List.drop_zero]
    repeat (gi_big_quiet_step ((first | (gi_at_call 27; with_reducible exact inRound l (hf.made (vcross_is _ _ _ _ _ _ i0 i1 i2 i3 EC.out))) | (gi_at_call 10; with_reducible exact inRound l (hf.same (mul_is _ _ _ _ ic id_ EM.out))) | (gi_at_call 21; with_reducible exact inRound l (hf.same (of_is 12 51539607552 _ i12 EO.out))) | (gi_at_call 13; with_reducible exact inRound l (hf.drawn (div_is _ _ _ _ im iG ET.out))) | (gi_at_call 26; with_reducible exact inRound l (hf.same (add_is _ _ _ _ iS it ES.out))))))
    refine wpQuietIn_nil ?_
    intro w4 h4
    have k4 := HK1.out.trans ((hf.here h4).mono HK1.out.size)
    have bS4 : Boxed w4 (w.heap.size + 1) 24 (.int .i64 S) := (k4.block _ HBS.out.lt).trans HBS.out
    have cS4 := bS4.cell
    have fS4 := bS4.frozen
    have k5 := (k4.mono HB1.out.size).setCell (p := ⟨w.heap.size + 1, 0, none⟩) (by simp) (.int .i64 S1)
    have HK5 := hid k5
    have HK4 := hid k4
    have HS4 := hid bS4
    clear cS s0 x0 x1 y0 y1 hf h4 k4 k5 bS4 a0 a1 b0 b1
    gi_wp2_with fail
    refine ⟨(keepsFrom_of_below HK4.out).trans ((KeepsOthers.setCell _ _ _).from _), ⟨HK5.out, ?_⟩, ⟨?_, Nat.lt_of_lt_of_le HBN.out HK5.out.size⟩, HB1.out.trans HK5.out⟩
    · exact (Below.heap_setCell _ _ _ _ (by simp)).trans (HK4.out.block _ HBN.out)
    · rw [HX.out]
      exact HS4.out.set _
  case done =>
    rintro D ys W hD rfl ⟨⟨bS1, _⟩, hB1⟩ hK
    have cS := bS1.cell
    gi_wp2
    refine ⟨by simp, .inl ⟨_, _, rfl, run_takeDeferred hK, ?_⟩⟩
    exact ⟨_, results_tmp rfl _ _ _, by rw [sumC_range roundT f n n (Nat.le_refl n)]; rfl, hB1.trans (belowK_b (w := w) (Nat.le_refl _) W D _ _ (by omega) hK rfl rfl)⟩
  case stop =>
    rintro D c pre W _ _ h _
    exact h.elim
end Go.Proofs.Ytahbnbaldoblaaa.Fx
