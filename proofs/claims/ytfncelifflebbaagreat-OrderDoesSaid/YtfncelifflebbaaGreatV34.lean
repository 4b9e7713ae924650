/- MassG MassH OtM -/
import Derived.Test.YtfncelifflebbaaGreatV3
import Derived.Test.YtfncelifflebbaaGreatV4
import Derived.Test.YtfncelifflebbaaGreatV6
import Derived.Test.YtfncelifflebbaaGreatV32
import Derived.Test.YtfncelifflebbaaGreatV33
import Derived.WalkLawsBesides

/- Round of package mass, of a polygon. -/




namespace Go.Proofs.YtfncelifflebbaaGreat.Fx
open Go.ChangeShapes Go.WideShapes Go.ChangeAt Go.RowKit
set_option linter.unusedVariables false
attribute [local go_sem] Oper.semAt_some wide_fn

set_option maxRecDepth 100000 in
set_option maxHeartbeats 2000000 in
theorem round_is (K R : Int) (b off n cap : Nat) (f : Cs) (w : World) (hK : K ≠ 1) (h0 : 0 < n) (h8 : n ≤ 8) (hP : Pts w b off n f) (hi : Cin f n) :
    Calls Tryz.prog 60 #[shapeV K R (.slice (some ⟨b, off, none⟩) n cap)] w fun e w' => e = .returned (.int .i64 (sumT roundT f n n)) ∧ Below w.heap.size w w' := by
  have HP := hid hP
  have HI := hid hi
  have hb : b < w.heap.size := World.block_lt_of_cell? _ _ (hP 0 h0).1
  have HB := hid hb
  clear hP hi hb
  refine (callsIn_wide (n := 6)).1 ?_
  refine callsIn_of_wp_marks Tryz.func60 rfl trivial ?_ rfl
  simp only [Tryz.ntmps60, List.size_toArray, List.length_cons, List.length_nil, Nat.reduceAdd, Nat.reduceSub, Array.replicate_succ, Array.replicate_zero, List.push_toArray, List.append_toArray, List.nil_append, List.cons_append]
  gi_wp2_with (gi_at_call 94; refine (sides_in Fence.wide _ trivial rfl _ _ _ _).mono ?_; rintro e w' ⟨rfl, rfl⟩)
  obtain ⟨W0, hW0⟩ : ∃ W0, W0 = ((w.alloc (.cells #[.int .i64 K, .int .i64 R, .slice (some ⟨b, off, none⟩) n cap] 27)).alloc (.cells #[.int .i64 0] 22)).alloc (.cells #[.slice (some ⟨b, off, none⟩) n cap] 25) := ⟨_, rfl⟩
  have bS : Boxed W0 (w.heap.size + 1) 22 (.int .i64 0) := by
    rw [hW0]
    have := (Boxed.new (w.alloc (.cells #[.int .i64 K, .int .i64 R, .slice (some ⟨b, off, none⟩) n cap] 27)) 22 (.int .i64 0)).alloc (.cells #[.slice (some ⟨b, off, none⟩) n cap] 25)
    rwa [World.size_alloc] at this
  have bN : Boxed W0 (w.heap.size + 1 + 1) 25 (.slice (some ⟨b, off, none⟩) n cap) := by
    rw [hW0]
    have := Boxed.new ((w.alloc (.cells #[.int .i64 K, .int .i64 R, .slice (some ⟨b, off, none⟩) n cap] 27)).alloc (.cells #[.int .i64 0] 22)) 25 (.slice (some ⟨b, off, none⟩) n cap)
    rwa [World.size_alloc, World.size_alloc] at this
  have hB0 : Below w.heap.size w W0 := by
    rw [hW0]
    exact (((Below.refl _ w).alloc (Nat.le_refl _) _).alloc (by simp) _).alloc (by simp; omega) _
  have hsz : W0.heap.size = w.heap.size + 3 := by rw [hW0]; simp
  have P0 : Pts W0 b off n f := fun i hi => ⟨Below.reads hB0 (HP.out i hi).1, Below.reads hB0 (HP.out i hi).2⟩
  rw [← hW0]
  clear hW0
  refine wpIn_rangeFunc_ownH rfl (by omega) (gf := 127) (lb := #[.pointer (some ⟨w.heap.size + 1 + 1, 0, none⟩)]) rfl trivial (enters_of Tryz.func127 (by kernel_rfl) rfl)
    (sides1_stops Fence.wide _ trivial rfl (by omega) (w.heap.size + 1 + 1) w.heap.size b off n cap f h0 h8 W0 (by omega) (by omega) HB.out bN.cell P0) KeepB.t (KeepB.b (by omega) (by omega)) (Below.refl _ _) (fun _ => rfl)
    (fun pre W => (Boxed W (w.heap.size + 1) 22 (.int .i64 (sumC roundT f n pre)) ∧ w.heap.size + 1 + 1 < W.heap.size) ∧ Below w.heap.size w W)
    (fun _ _ _ => False)
    (OwnFrom.and (OwnFrom.and (Own.from (boxed_own _ _ _) _) (fun _ _ _ _ hs hg _ => Nat.lt_of_lt_of_le hs hg.size)) (ownFrom_below (Nat.le_refl _) (by omega)))
    (fun _ _ _ _ _ hs _ _ => hs)
    ⟨⟨bS, by omega⟩, hB0⟩
    (fun x a' W => ∃ Ba Bb, w.heap.size + 1 + 1 < Ba ∧ w.heap.size + 1 + 1 < Bb ∧ Has W Ba 24 #[.int .i64 (f (x % n)).1, .int .i64 (f (x % n)).2] ∧ Has W Bb 24 #[.int .i64 (f ((x + 1) % n)).1, .int .i64 (f ((x + 1) % n)).2] ∧
      a' = { tmps := #[shapeV K R (.slice (some ⟨b, off, none⟩) n cap), .pointer (some ⟨w.heap.size, 0, none⟩), .int .i64 0, .pointer (some ⟨w.heap.size + 1, 0, none⟩), .pointer (some ⟨Ba, 0, none⟩), .pointer (some ⟨Bb, 0, none⟩), undef, .pointer (some ⟨w.heap.size, 0, none⟩), .int .i64 K, .bool false, undef, undef, undef, undef, undef, undef, undef, undef, undef, undef, .pointer (some ⟨w.heap.size, 2, none⟩), .slice (some ⟨b, off, none⟩) n cap, .func (.func 127) #[] #[.pointer (some ⟨w.heap.size + 1 + 1, 0, none⟩)], vecV (f (x % n)).1 (f (x % n)).2, vecV (f ((x + 1) % n)).1 (f ((x + 1) % n)).2, undef, undef, undef, undef, undef, undef, undef, undef, undef, undef, undef, undef, undef, undef, undef, undef, undef, undef, undef, undef, undef], defers := [] })
    (fun x a' _ X Y row hs hg hr => by
      obtain ⟨Ba, Bb, h1, h2, h3, h4, h5⟩ := hs
      exact ⟨Ba, Bb, h1, h2, h3.owned hg (fun r e => (hr r e).2), h4.owned hg (fun r e => (hr r e).2), h5⟩)
    ?assign ?body ?done ?stop
  case assign =>
    rintro l pre x W K ⟨⟨bS1, bN1⟩, hB1⟩ hK
    gi_wp2
    have hsW := hB1.size
    have kA : Below W.heap.size W ((W.alloc (.cells #[.int .i64 (f (x % n)).1, .int .i64 (f (x % n)).2] 24)).alloc (.cells #[.int .i64 (f ((x + 1) % n)).1, .int .i64 (f ((x + 1) % n)).2] 24)) := ((Below.refl _ W).alloc (Nat.le_refl _) _).alloc (by simp) _
    have hS := bS1.lt
    refine hK _ _ (keepsFrom_of_below kA) ⟨kA.mono hsW, kA.block _ ?_⟩ ⟨⟨(bS1.alloc _).alloc _, Nat.lt_of_lt_of_le bN1 kA.size⟩, hB1.trans (kA.mono hsW)⟩ ⟨W.heap.size, W.heap.size + 1, ?_, ?_, (has_new W _ _).more _, ?_, rfl⟩
    · omega
    · omega
    · omega
    · have := has_new (W.alloc (.cells #[.int .i64 (f (x % n)).1, .int .i64 (f (x % n)).2] 24)) 24 #[.int .i64 (f ((x + 1) % n)).1, .int .i64 (f ((x + 1) % n)).2]
      rwa [World.size_alloc] at this
  case body =>
    rintro l pre x a' W hl ⟨r, hr⟩ ⟨⟨bS1, bN1⟩, hB1⟩ ⟨Ba, Bb, hBa, hBb, hA, hB, rfl⟩ hlt
    have hx : x % n < n := Nat.mod_lt _ h0
    have hy : (x + 1) % n < n := Nat.mod_lt _ h0
    obtain ⟨i0, i1⟩ := HI.out _ hx
    obtain ⟨i2, i3⟩ := HI.out _ hy
    have HX := hid (sumC_snoc roundT f n pre x)
    obtain ⟨S, eS⟩ : ∃ S, sumC roundT f n pre = S := ⟨_, rfl⟩
    obtain ⟨p, ep⟩ : ∃ p, f (x % n) = p := ⟨_, rfl⟩
    obtain ⟨q, eq⟩ : ∃ q, f ((x + 1) % n) = q := ⟨_, rfl⟩
    have iS : I64 S := by rw [← eS]; exact sumC_i64 roundT f n pre
    rw [eS, ep, eq] at HX
    rw [eS] at bS1
    rw [ep] at hA i0 i1
    rw [eq] at hB i2 i3
    simp only [ep, eq]
    obtain ⟨p0, p1⟩ := p
    obtain ⟨q0, q1⟩ := q
    simp only [] at i0 i1 i2 i3 hA hB ⊢
    obtain ⟨u, eu⟩ : ∃ u, addF (mulF p0 p0) (mulF p1 p1) = u := ⟨_, rfl⟩
    obtain ⟨v, ev⟩ : ∃ v, addF (mulF p0 q0) (mulF p1 q1) = v := ⟨_, rfl⟩
    obtain ⟨z, ez⟩ : ∃ z, addF (mulF q0 q0) (mulF q1 q1) = z := ⟨_, rfl⟩
    obtain ⟨d, ed⟩ : ∃ d, addF (addF u v) z = d := ⟨_, rfl⟩
    obtain ⟨c, ec⟩ : ∃ c, subF (mulF p0 q1) (mulF p1 q0) = c := ⟨_, rfl⟩
    obtain ⟨m, em⟩ : ∃ m, mulF c d = m := ⟨_, rfl⟩
    obtain ⟨t, et⟩ : ∃ t, divF m 51539607552 = t := ⟨_, rfl⟩
    obtain ⟨S1, eS1⟩ : ∃ s, addF S t = s := ⟨_, rfl⟩
    have ru : Rg u := by rw [← eu]; exact rg_add _ _
    have rv : Rg v := by rw [← ev]; exact rg_add _ _
    have rz : Rg z := by rw [← ez]; exact rg_add _ _
    have id_ : I64 d := by rw [← ed]; exact i64_add _ _
    have ic : I64 c := by rw [← ec]; exact i64_sub _ _
    have im : I64 m := by rw [← em]; exact i64_mul _ _
    have it : I64 t := by rw [← et]; exact i64_div _ _
    have iG : I64 51539607552 := by unfold I64; omega
    have i12 : I64 12 := by unfold I64; omega
    have EO := hid (show ofF 12 = 51539607552 by kernel_rfl)
    have hS1 : addF S (roundT (p0, p1) (q0, q1)) = S1 := by rw [← eS1, ← et, ← em, ← ec, ← ed, ← ez, ← ev, ← eu]; rfl
    rw [hS1] at HX
    have EU := hid eu
    have EV := hid ev
    have EZ := hid ez
    have ED := hid ed
    have EC := hid ec
    have EM := hid em
    have ET := hid et
    have ES := hid eS1
    clear eu ev ez ed ec em et eS1 hS1 ep eq eS
    have cS := bS1.cell
    have a0 := hA.at_ 0
    have a1 := hA.at_ 1
    have b0 := hB.at_ 0
    have b1 := hB.at_ 1
    simp at a0 a1 b0 b1
    have HBS := hid bS1
    have HBN := hid bN1
    have HB1 := hid hB1
    clear bS1 bN1 hB1 hA hB
    gi_wp2
    refine regIn_below_tail 9 (by kernel_rfl) (by kernel_rfl) (by kernel_rfl) ?_
    intro T hT fw hf
    have x0 := hf.reads a0
    have x1 := hf.reads a1
    have y0 := hf.reads b0
    have y1 := hf.reads b1
    simp only [List.take_succ_cons, List.take_zero, List.drop_succ_cons, List.drop_zero]
    repeat (gi_big_quiet_step ((gi_at_call 98; with_reducible first | exact inRound l (hf.made (vdot_is _ _ _ _ _ _ (by assumption) (by assumption) (by assumption) (by assumption) EU.out)) | exact inRound l (hf.made (vdot_is _ _ _ _ _ _ (by assumption) (by assumption) (by assumption) (by assumption) EV.out)) | exact inRound l (hf.made (vdot_is _ _ _ _ _ _ (by assumption) (by assumption) (by assumption) (by assumption) EZ.out)))))
    refine wpQuietIn_nil ?_
    intro w3 h3
    have k3 := hf.here h3
    have cS := Below.reads k3 cS
    have a0 := Below.reads k3 a0
    have a1 := Below.reads k3 a1
    have b0 := Below.reads k3 b0
    have b1 := Below.reads k3 b1
    have HK3 := hid k3
    clear x0 x1 y0 y1 hf h3 k3
    gi_wp2_with fail
    obtain ⟨W1, eW⟩ : ∃ W1, W1 = w3.alloc (.cells #[.int .i64 u, .int .i64 v, .int .i64 z] 22) := ⟨_, rfl⟩
    have hn : Has W1 w3.heap.size 22 #[.int .i64 u, .int .i64 v, .int .i64 z] := by rw [eW]; exact has_new _ _ _
    have k1 : Below W.heap.size W W1 := by rw [eW]; exact HK3.out.alloc HK3.out.size _
    have cS : W1.cell? ⟨w.heap.size + 1, 0, none⟩ = some (.int .i64 S) := by rw [eW]; exact cell_more cS
    have a0 : W1.cell? ⟨Ba, 0, none⟩ = some (.int .i64 p0) := by rw [eW]; exact cell_more a0
    have a1 : W1.cell? ⟨Ba, 1, none⟩ = some (.int .i64 p1) := by rw [eW]; exact cell_more a1
    have b0 : W1.cell? ⟨Bb, 0, none⟩ = some (.int .i64 q0) := by rw [eW]; exact cell_more b0
    have b1 : W1.cell? ⟨Bb, 1, none⟩ = some (.int .i64 q1) := by rw [eW]; exact cell_more b1
    have HK1 := hid k1
    rw [← eW]
    clear eW k1
    refine (inRound l (sum3_is w3.heap.size 3 u v z W1 ru rv rz (hn.at_ 0) (hn.at_ 1) (hn.at_ 2) d ED.out)).mono ?_
    rintro e w' ⟨rfl, rfl⟩
    clear hn
    gi_wp2_with fail
    refine regIn_below_tail 9 (by kernel_rfl) (by kernel_rfl) (by kernel_rfl) ?_
    intro T hT fw hf
    have s0 := hf.reads cS
    have x0 := hf.reads a0
    have x1 := hf.reads a1
    have y0 := hf.reads b0
    have y1 := hf.reads b1
    simp only [List.take_succ_cons, List.take_zero, List.drop_succ_cons, List.drop_zero]
    repeat (gi_big_quiet_step ((first | (gi_at_call 95; with_reducible exact inRound l (hf.made (vcross_is _ _ _ _ _ _ i0 i1 i2 i3 EC.out))) | (gi_at_call 28; with_reducible exact inRound l (hf.same (mul_is _ _ _ _ ic id_ EM.out))) | (gi_at_call 96; with_reducible exact inRound l (hf.same (of_is 12 51539607552 _ i12 EO.out))) | (gi_at_call 61; with_reducible exact inRound l (hf.drawn (div_is _ _ _ _ im iG ET.out))) | (gi_at_call 27; with_reducible exact inRound l (hf.same (add_is _ _ _ _ iS it ES.out))))))
    refine wpQuietIn_nil ?_
    intro w4 h4
    have k4 := HK1.out.trans ((hf.here h4).mono HK1.out.size)
    have bS4 : Boxed w4 (w.heap.size + 1) 22 (.int .i64 S) := (k4.block _ HBS.out.lt).trans HBS.out
    have cS4 := bS4.cell
    have fS4 := bS4.frozen
    have k5 := (k4.mono HB1.out.size).setCell (p := ⟨w.heap.size + 1, 0, none⟩) (by simp) (.int .i64 S1)
    have HK5 := hid k5
    have HK4 := hid k4
    have HS4 := hid bS4
    clear cS s0 x0 x1 y0 y1 hf h4 k4 k5 bS4 a0 a1 b0 b1
    gi_wp2_with fail
    refine ⟨(keepsFrom_of_below HK4.out).trans ((KeepsOthers.setCell _ _ _).from _), ⟨HK5.out, ?_⟩, ⟨?_, Nat.lt_of_lt_of_le HBN.out HK5.out.size⟩, HB1.out.trans HK5.out⟩
    · exact (Below.heap_setCell _ _ _ _ (by simp)).trans (HK4.out.block _ HBN.out)
    · rw [HX.out]
      exact HS4.out.set _
  case done =>
    rintro D ys W hD rfl ⟨⟨bS1, _⟩, hB1⟩ hK
    have cS := bS1.cell
    gi_wp2
    refine ⟨by simp, .inl ⟨_, _, rfl, run_takeDeferred hK, ?_⟩⟩
    exact ⟨_, results_tmp rfl _ _ _, by rw [sumC_range roundT f n n (Nat.le_refl n)]; rfl, hB1.trans (belowK_b (w := w) (Nat.le_refl _) W D _ _ (by omega) hK rfl rfl)⟩
  case stop =>
    rintro D c pre W _ _ h _
    exact h.elim
end Go.Proofs.YtfncelifflebbaaGreat.Fx


/- Area and Round of package mass, of a circle; Of: what a body weighs. -/


namespace Go.Proofs.YtfncelifflebbaaGreat.Fx
open Go.ChangeShapes Go.WideShapes Go.ChangeAt Go.RowKit
set_option linter.unusedVariables false

set_option maxRecDepth 100000 in
set_option maxHeartbeats 1000000 in
theorem area_circle (R r : Int) (ao : Option Addr) (n cap : Nat) (w : World) (hR : I64 R) (hr : areaC R = r) :
    Calls Tryz.prog 59 #[shapeV 1 R (.slice ao n cap)] w fun e w' => e = .returned (.int .i64 r) ∧ Made w.heap.size w w' := by
  obtain ⟨m, em⟩ : ∃ m, mulF R R = m := ⟨_, rfl⟩
  have im : I64 m := by rw [← em]; exact i64_mul _ _
  have iP : I64 13493037705 := by unfold I64; omega
  have EM := hid em
  have ER := hid (show mulF 13493037705 m = r by rw [← hr, ← em]; rfl)
  clear em hr
  go_enter Tryz.func59, Tryz.ntmps59
  go_wp2_with fail
  refine (mul_is R R m _ hR hR EM.out).mono ?_
  rintro e w' ⟨rfl, rfl⟩
  go_wp2_with fail
  refine (mul_is _ m r _ iP im ER.out).mono ?_
  rintro e w' ⟨rfl, rfl⟩
  go_wp2_with fail
  go_ret
  exact ⟨rfl, (Made.rfl_ _ _).cells (Nat.le_refl _) _ _⟩

set_option maxRecDepth 100000 in
set_option maxHeartbeats 1000000 in
theorem round_circle (R r : Int) (ao : Option Addr) (n cap : Nat) (w : World) (hR : I64 R) (hr : roundC R = r) :
    Calls Tryz.prog 60 #[shapeV 1 R (.slice ao n cap)] w fun e w' => e = .returned (.int .i64 r) ∧ Made w.heap.size w w' := by
  obtain ⟨m, em⟩ : ∃ m, mulF R R = m := ⟨_, rfl⟩
  obtain ⟨a, ea⟩ : ∃ a, areaC R = a := ⟨_, rfl⟩
  obtain ⟨p, ep⟩ : ∃ p, mulF a m = p := ⟨_, rfl⟩
  have im : I64 m := by rw [← em]; exact i64_mul _ _
  have ia : I64 a := by rw [← ea]; exact i64_mul _ _
  have ip : I64 p := by rw [← ep]; exact i64_mul _ _
  have iG : I64 8589934592 := by unfold I64; omega
  have i2 : I64 2 := by unfold I64; omega
  have EO := hid (show ofF 2 = 8589934592 by kernel_rfl)
  have ER := hid (show divF p 8589934592 = r by rw [← hr, ← ep, ← ea, ← em]; rfl)
  have EM := hid em
  have EA := hid ea
  have EP := hid ep
  clear em ea ep hr
  go_enter Tryz.func60, Tryz.ntmps60
  go_wp2_with fail
  refine reg_made (by kernel_rfl) (by kernel_rfl) ?_
  intro T hT fw hf
  have x0 := Class.reads hf (p := ⟨w.heap.size, 0, none⟩) (u := .int .i64 1) (by go_simp)
  have x1 := Class.reads hf (p := ⟨w.heap.size, 1, none⟩) (u := .int .i64 R) (by go_simp)
  have x2 := Class.reads hf (p := ⟨w.heap.size, 2, none⟩) (u := .slice ao n cap) (by go_simp)
  repeat (go_big_quiet_step ((first | (go_at_call 59; with_reducible exact hf.made (area_circle _ _ _ _ _ _ hR EA.out)) | (go_at_call 96; with_reducible exact hf.same (of_is 2 8589934592 _ i2 EO.out)) | (go_at_call 28; with_reducible first | exact hf.same (mul_is _ _ _ _ hR hR EM.out) | exact hf.same (mul_is _ _ _ _ ia im EP.out)) | (go_at_call 61; with_reducible exact hf.drawn (div_is _ _ _ _ ip iG ER.out)))))
  refine wpQuiet_nil ?_
  intro w3 h3
  have k3 := hf.here h3
  go_wp2_with fail
  go_ret
  exact ⟨rfl, made_box k3⟩
end Go.Proofs.YtfncelifflebbaaGreat.Fx


/- Of of package mass, of any body. -/






namespace Go.Proofs.YtfncelifflebbaaGreat.Fx
open Go.ChangeShapes Go.WideShapes Go.ChangeAt Go.RowKit
set_option linter.unusedVariables false

set_option maxRecDepth 100000 in
set_option maxHeartbeats 1000000 in
theorem of_static_any (p0 p1 p2 p3 p4 p5 p6 d K R : Int) (s : Value) (w : World) (hd : d ≤ 0) (A B : Int) :
    Calls Tryz.prog 22 #[bodyV p0 p1 p2 p3 p4 p5 p6 d K R s] w fun e w' => e = .returned (massOf d A B) ∧ Below w.heap.size w w' := by
  have hm := hid (show massOf d A B = massV 0 0 0 0 by unfold massOf; rw [if_pos hd])
  rw [hm.out]
  go_enter Tryz.func22, Tryz.ntmps22
  go_wp2_with fail
  obtain ⟨W, eW⟩ : ∃ W, W = (w.alloc (.cells (#[.int .i64 p0, .int .i64 p1, .int .i64 p2, .int .i64 p3, .int .i64 p4, .int .i64 p5, .int .i64 p6, .int .i64 d, .int .i64 K, .int .i64 R, s] : Array Value) 35)).alloc (.cells #[.int .i64 0, .int .i64 0, .int .i64 0, .int .i64 0] 65) := ⟨_, rfl⟩
  have hH : Has W (w.heap.size + 1) 65 #[.int .i64 0, .int .i64 0, .int .i64 0, .int .i64 0] := by rw [eW]; exact has_next _ _ _ _
  have k0 : Below w.heap.size w W := by rw [eW]; exact ((Below.refl _ w).alloc (Nat.le_refl _) _).alloc (by simp) _
  rw [← eW]
  have r0 := hH.at_ 0
  have r1 := hH.at_ 1
  have r2 := hH.at_ 2
  have r3 := hH.at_ 3
  exact bodyPost_ret (v := massV 0 0 0 0) (by simp [results, Tryz.results22, go_sem, r0, r1, r2, r3]) rfl ⟨rfl, k0⟩

set_option maxRecDepth 100000 in
set_option maxHeartbeats 1000000 in
theorem of_moves_any (p0 p1 p2 p3 p4 p5 p6 d K R : Int) (s : Value) (w : World) (id_ : I64 d) (hd : 0 < d) (A B : Int) (iA : I64 A) (iB : I64 B)
    (hA : ∀ v, Below w.heap.size w v → Calls Tryz.prog 59 #[shapeV K R s] v fun e w' => e = .returned (.int .i64 A) ∧ Below v.heap.size v w')
    (hB : ∀ v, Below w.heap.size w v → Calls Tryz.prog 60 #[shapeV K R s] v fun e w' => e = .returned (.int .i64 B) ∧ Below v.heap.size v w') :
    Calls Tryz.prog 22 #[bodyV p0 p1 p2 p3 p4 p5 p6 d K R s] w fun e w' => e = .returned (massOf d A B) ∧ Below w.heap.size w w' := by
  obtain ⟨a, ea⟩ : ∃ a, mulF d A = a := ⟨_, rfl⟩
  obtain ⟨b, eb⟩ : ∃ b, mulF d B = b := ⟨_, rfl⟩
  obtain ⟨m, em⟩ : ∃ m, max a 1 = m := ⟨_, rfl⟩
  obtain ⟨i, ei⟩ : ∃ i, max b 1 = i := ⟨_, rfl⟩
  obtain ⟨x, ex⟩ : ∃ x, divF 4294967296 m = x := ⟨_, rfl⟩
  obtain ⟨y, ey⟩ : ∃ y, divF 4294967296 i = y := ⟨_, rfl⟩
  have ia : I64 a := by rw [← ea]; exact i64_mul _ _
  have ib : I64 b := by rw [← eb]; exact i64_mul _ _
  have im : I64 m := by unfold I64 at *; omega
  have ii : I64 i := by unfold I64 at *; omega
  have i1 : I64 4294967296 := by unfold I64; omega
  have hm := hid (show massOf d A B = massV m i x y by unfold massOf; rw [if_neg (by omega), ea, eb, em, ei, ex, ey])
  rw [hm.out]
  have hle : decide (d ≤ 0) = false := by simp; omega
  have EA := hid ea
  have EB := hid eb
  have EX := hid ex
  have EY := hid ey
  have HA := hid hA
  have HB := hid hB
  clear ea eb ex ey hA hB hm
  go_enter Tryz.func22, Tryz.ntmps22
  go_wp2_with fail
  obtain ⟨W, eW⟩ : ∃ W, W = (w.alloc (.cells (#[.int .i64 p0, .int .i64 p1, .int .i64 p2, .int .i64 p3, .int .i64 p4, .int .i64 p5, .int .i64 p6, .int .i64 d, .int .i64 K, .int .i64 R, s] : Array Value) 35)).alloc (.cells #[.int .i64 0, .int .i64 0, .int .i64 0, .int .i64 0] 65) := ⟨_, rfl⟩
  have hH : Has W (w.heap.size + 1) 65 #[.int .i64 0, .int .i64 0, .int .i64 0, .int .i64 0] := by rw [eW]; exact has_next _ _ _ _
  have hG : Has W w.heap.size 35 #[.int .i64 p0, .int .i64 p1, .int .i64 p2, .int .i64 p3, .int .i64 p4, .int .i64 p5, .int .i64 p6, .int .i64 d, .int .i64 K, .int .i64 R, s] := by rw [eW]; exact (has_new _ _ _).more _
  have k0 : Below w.heap.size w W := by rw [eW]; exact ((Below.refl _ w).alloc (Nat.le_refl _) _).alloc (by simp) _
  rw [← eW]
  clear eW
  have c7 := hG.at_ 7
  have c8 := hG.at_ 8
  have c9 := hG.at_ 9
  have c10 := hG.at_ 10
  have K0 := hid k0
  have HH := hid hH
  simp at c7 c8 c9 c10
  clear k0 hH hG
  refine reg_below (by kernel_rfl) (by kernel_rfl) ?_
  intro T hT fw hf
  have z7 := hf.reads c7
  have z8 := hf.reads c8
  have z9 := hf.reads c9
  have z10 := hf.reads c10
  have hz := fun t => hf.below (x := t) (HA.out _ (K0.out.trans ((hf.1 t).mono K0.out.size)))
  have HZ := hid hz
  clear hz
  repeat (go_big_quiet_step ((first | (go_at_call 59; with_reducible exact HZ.out _) | (go_at_call 28; with_reducible exact hf.same (mul_is _ _ _ _ id_ iA EA.out)))))
  refine wpQuiet_nil ?_
  intro w3 h3
  have k3 := hf.here h3
  have c7 := Below.reads k3 c7
  have c8 := Below.reads k3 c8
  have c9 := Below.reads k3 c9
  have c10 := Below.reads k3 c10
  have K3 := hid (K0.out.trans (k3.mono K0.out.size))
  have HH3 := hid (HH.out.below k3 HH.out.here)
  clear z7 z8 z9 z10 HZ hf h3 k3 HH K0
  go_wp2_with fail
  refine reg_below (by kernel_rfl) (by kernel_rfl) ?_
  intro T hT fw hf
  have z7 := hf.reads c7
  have z8 := hf.reads c8
  have z9 := hf.reads c9
  have z10 := hf.reads c10
  have hz := fun t => hf.below (x := t) (HB.out _ (K3.out.trans ((hf.1 t).mono K3.out.size)))
  have HZ := hid hz
  clear hz
  repeat (go_big_quiet_step ((first | (go_at_call 60; with_reducible exact HZ.out _) | (go_at_call 28; with_reducible exact hf.same (mul_is _ _ _ _ id_ iB EB.out)))))
  refine wpQuiet_nil ?_
  intro w4 h4
  have k4 := hf.here h4
  have K4 := hid (K3.out.trans (k4.mono K3.out.size))
  have hH := HH3.out.below k4 HH3.out.here
  have r0 := hH.at_ 0
  have r1 := hH.at_ 1
  have r2 := hH.at_ 2
  have r3 := hH.at_ 3
  have m0 := hH.free 0
  have m1 := hH.free 1
  have m2 := hH.free 2
  have m3 := hH.free 3
  simp at r0 r1 r2 r3
  have HH4 := hid hH
  clear z7 z8 z9 z10 HZ hf h4 k4 HH3 hH
  go_wp2_with fail
  refine (div_is 4294967296 m x _ i1 im EX.out).mono ?_
  rintro e w' ⟨rfl, n1, rfl⟩
  go_wp2_with fail
  refine (div_is 4294967296 i y _ i1 ii EY.out).mono ?_
  rintro e w' ⟨rfl, n2, rfl⟩
  go_wp2_with fail
  obtain ⟨V, eV⟩ : ∃ V, V = (((((w4.drewN (n1 + n2)).setCell ⟨w.heap.size + 1, 0, none⟩ (.int .i64 m)).setCell ⟨w.heap.size + 1, 1, none⟩ (.int .i64 i)).setCell ⟨w.heap.size + 1, 2, none⟩ (.int .i64 x)).setCell ⟨w.heap.size + 1, 3, none⟩ (.int .i64 y)) := ⟨_, rfl⟩
  have hV : Has V (w.heap.size + 1) 65 #[.int .i64 m, .int .i64 i, .int .i64 x, .int .i64 y] := by
    rw [eV]
    exact ((((HH4.out.drawn (n1 + n2)).put 0 (.int .i64 m)).put 1 (.int .i64 i)).put 2 (.int .i64 x)).put 3 (.int .i64 y)
  have kV : Below w.heap.size w V := by
    rw [eV]
    have k5 : Below w.heap.size w (w4.drewN (n1 + n2)) := ⟨K4.out.os, K4.out.tape, K4.out.output, K4.out.size, K4.out.block⟩
    exact (((k5.setCell (p := ⟨w.heap.size + 1, 0, none⟩) (by simp) _).setCell (p := ⟨w.heap.size + 1, 1, none⟩) (by simp) _).setCell (p := ⟨w.heap.size + 1, 2, none⟩) (by simp) _).setCell (p := ⟨w.heap.size + 1, 3, none⟩) (by simp) _
  rw [← eV]
  have r0 := hV.at_ 0
  have r1 := hV.at_ 1
  have r2 := hV.at_ 2
  have r3 := hV.at_ 3
  simp at r0 r1 r2 r3
  exact bodyPost_ret (v := massV m i x y) (by simp [results, Tryz.results22, go_sem, r0, r1, r2, r3]) rfl ⟨rfl, kV⟩

theorem of_answers_any (p0 p1 p2 p3 p4 p5 p6 d K R : Int) (s : Value) (w : World) (id_ : I64 d) (A B : Int) (iA : I64 A) (iB : I64 B)
    (hA : ∀ v, Below w.heap.size w v → Calls Tryz.prog 59 #[shapeV K R s] v fun e w' => e = .returned (.int .i64 A) ∧ Below v.heap.size v w')
    (hB : ∀ v, Below w.heap.size w v → Calls Tryz.prog 60 #[shapeV K R s] v fun e w' => e = .returned (.int .i64 B) ∧ Below v.heap.size v w') :
    Calls Tryz.prog 22 #[bodyV p0 p1 p2 p3 p4 p5 p6 d K R s] w fun e w' => e = .returned (massOf d A B) ∧ Below w.heap.size w w' := by
  by_cases h : d ≤ 0
  · exact of_static_any p0 p1 p2 p3 p4 p5 p6 d K R s w h A B
  · exact of_moves_any p0 p1 p2 p3 p4 p5 p6 d K R s w id_ (by omega) A B iA iB hA hB
def areaB (b : Bd) : Int := if b.k = 1 then areaC b.r else sumT areaT b.f b.n b.n
def roundB (b : Bd) : Int := if b.k = 1 then roundC b.r else sumT roundT b.f b.n b.n
def massB (b : Bd) : Value := massOf b.de (areaB b) (roundB b)
theorem areaC_i64 (r : Int) : I64 (areaC r) := i64_mul _ _
theorem roundC_i64 (r : Int) : I64 (roundC r) := i64_div _ _
theorem mof_c (b : Bd) {w : World} (hi : BdI b) (hp : BodyP b) (hs : Sl w b.ao b.n b.f) :
    Calls Tryz.prog 22 #[bdV b] w fun e v => e = .returned (massB b) ∧ Below w.heap.size w v := by
  by_cases hk : b.k = 1
  · have hA : areaB b = areaC b.r := if_pos hk
    have hB : roundB b = roundC b.r := if_pos hk
    unfold massB
    rw [hA, hB]
    refine of_answers_any b.id b.x b.y b.vx b.vy b.an b.sp b.de b.k b.r _ w hi.de _ _ (areaC_i64 _) (roundC_i64 _) ?_ ?_
    · intro v k
      rw [hk]
      exact (area_circle b.r _ _ _ _ v hi.r rfl).mono fun e u h => ⟨h.1, h.2.1⟩
    · intro v k
      rw [hk]
      exact (round_circle b.r _ _ _ _ v hi.r rfl).mono fun e u h => ⟨h.1, h.2.1⟩
  · have hA : areaB b = sumT areaT b.f b.n b.n := if_neg hk
    have hB : roundB b = sumT roundT b.f b.n b.n := if_neg hk
    have hn : 0 < b.n ∧ b.n ≤ 8 := by
      rcases hp.shape with h | h
      · exact absurd h.1 hk
      · omega
    obtain ⟨g, off, e, hP⟩ := hs hn.1
    unfold massB
    rw [hA, hB]
    refine of_answers_any b.id b.x b.y b.vx b.vy b.an b.sp b.de b.k b.r _ w hi.de _ _ (sumT_i64 _ _ _ _) (sumT_i64 _ _ _ _) ?_ ?_
    · intro v k
      rw [e]
      exact area_is b.k b.r g off b.n b.c b.f v hk hn.1 hn.2 (fun i h => ⟨Below.reads k (hP i h).1, Below.reads k (hP i h).2⟩) hi.f
    · intro v k
      rw [e]
      exact round_is b.k b.r g off b.n b.c b.f v hk hn.1 hn.2 (fun i h => ⟨Below.reads k (hP i h).1, Below.reads k (hP i h).2⟩) hi.f
end Go.Proofs.YtfncelifflebbaaGreat.Fx

