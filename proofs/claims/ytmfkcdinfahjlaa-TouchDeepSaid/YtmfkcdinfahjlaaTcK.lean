/- Contracts of package touch: polygons. -/
import Derived.Test.YtmfkcdinfahjlaaTcB
import Derived.Test.YtmfkcdinfahjlaaTcH
import Derived.Test.YtmfkcdinfahjlaaMak
import Derived.Test.YtmfkcdinfahjlaaTcI
namespace Go.Proofs.Ytmfkcdinfahjlaa.Fx
open Go.ChangeShapes Go.WideShapes Go.ChangeAt Go.RowKit
set_option linter.unusedVariables false

/-- a touch made at i0, and variables for touches -/
def alT (T : Option Tch) (i0 i : Nat) (v : World) (g e : Nat) : Prop := if i = i0 then ansP T v g else Has v g 38 #[.int .i64 0, .int .i64 0, .slice none 0 0]
def valT (T : Option Tch) (i0 i g c : Nat) : Value := if i = i0 then ansV T g c else .pointer (some ⟨g, 0, none⟩)
theorem alT_lasts (T : Option Tch) (i0 : Nat) : MK.Lasts (alT T i0) := fun i u v g e h hg k => by
  unfold alT at h ⊢
  split
  · rename_i e; rw [if_pos e] at h; exact h.kept k
  · rename_i e; rw [if_neg e] at h; exact h.stays k hg

set_option maxRecDepth 100000 in
set_option maxHeartbeats 4000000 in
theorem tpolygons_far (b off cap g c2 n b2 off2 cap2 g2 d2 m : Nat) (P Q : Cs) (i k : Nat) (ga gb : Int) (w : World) (hn3 : 3 ≤ n) (h8 : n ≤ 8) (hm3 : 3 ≤ m) (hm8 : m ≤ 8) (ho : OutAt w b off g n P) (ho2 : OutAt w b2 off2 g2 m Q) (iP : Cin P n) (iQ : Cin Q m) (ei : sideF P n Q m = i) (ek : sideF Q m P n = k) (ega : gapF P n Q m i = ga) (egb : gapF Q m P n k = gb) (hc : 0 ≤ ga ∨ 0 ≤ gb) :
    Calls Try.prog 27 #[outV b off cap g c2 n, outV b2 off2 cap2 g2 d2 m] w (TouchQ none w) := by
  have hi : i < n := by
    rw [← ei]; have := firstF_le (gapF P n Q m) (n - 1); unfold sideF; omega
  have hk : k < m := by
    rw [← ek]; have := firstF_le (gapF Q m P n) (m - 1); unfold sideF; omega
  have HO := hid ho
  have HO2 := hid ho2
  have HG1 := hid (fun w (ho : OutAt w b off g n P) (ho2 : OutAt w b2 off2 g2 m Q) => togap_is b off cap g c2 n b2 off2 m cap2 P Q i ga w (by omega) h8 (by omega) hm8 ho ho2.1 iP iQ ei ega)
  have HG2 := hid (fun w (ho : OutAt w b off g n P) (ho2 : OutAt w b2 off2 g2 m Q) => togap_is b2 off2 cap2 g2 d2 m b off n cap Q P k gb w (by omega) hm8 (by omega) h8 ho2 ho.1 iQ iP ek egb)
  have iga : I64 ga := by rw [← ega]; exact i64_rg (gap_rg _ _ _ _ _)
  have igb : I64 gb := by rw [← egb]; exact i64_rg (gap_rg _ _ _ _ _)
  have hi8 : (i : Int) < 8 := by omega
  have hk8 : (k : Int) < 8 := by omega
  have hgc : (decide (0 ≤ ga) || decide (0 ≤ gb)) = true := by simp; exact hc
  clear ho ho2 iP iQ ei ek ega egb hi hk
  go_enter Try.func27, Try.ntmps27
  go_upto_region 1 with fail
  obtain ⟨W0, eW⟩ : ∃ W, W = ((w.alloc (.cells #[.slice (some ⟨b, off, none⟩) n cap, .slice (some ⟨g, 0, none⟩) n c2] 69)).alloc (.cells #[.slice (some ⟨b2, off2, none⟩) m cap2, .slice (some ⟨g2, 0, none⟩) m d2] 69)).alloc (.cells #[.int .i64 0, .int .i64 0, .slice none 0 0] 38) := ⟨_, rfl⟩
  have M0 : Hid (Made w.heap.size w W0) := by unfold Hid; rw [eW]; exact (((Made.rfl_ _ _).cells (Nat.le_refl _) _ _).cells (by simp) _ _).cells (by simp; omega) _ _
  have u0 : W0.cell? ⟨w.heap.size, 0, none⟩ = some (.slice (some ⟨b, off, none⟩) n cap) := by rw [eW]; go_simp
  have u1 : W0.cell? ⟨w.heap.size, 1, none⟩ = some (.slice (some ⟨g, 0, none⟩) n c2) := by rw [eW]; go_simp
  have v0 : W0.cell? ⟨w.heap.size + 1, 0, none⟩ = some (.slice (some ⟨b2, off2, none⟩) m cap2) := by rw [eW]; go_simp
  have v1 : W0.cell? ⟨w.heap.size + 1, 1, none⟩ = some (.slice (some ⟨g2, 0, none⟩) m d2) := by rw [eW]; go_simp
  have o0 : W0.cell? ⟨w.heap.size + 1 + 1, 0, none⟩ = some (.int .i64 0) := by rw [eW]; go_simp
  have o1 : W0.cell? ⟨w.heap.size + 1 + 1, 1, none⟩ = some (.int .i64 0) := by rw [eW]; go_simp
  have o2 : W0.cell? ⟨w.heap.size + 1 + 1, 2, none⟩ = some (.slice none 0 0) := by rw [eW]; go_simp
  have of_ : ∀ i, W0.frozen? ⟨w.heap.size + 1 + 1, i, none⟩ = false := fun i => by rw [eW]; go_simp
  have HA0 : Hid (OutAt W0 b off g n P) := HO.out.kept M0.out
  have HB0 : Hid (OutAt W0 b2 off2 g2 m Q) := HO2.out.kept M0.out
  rw [← eW]
  clear eW
  go_wp2_with fail
  refine (HG1.out _ HA0.out HB0.out).mono ?_
  rintro e w1 ⟨rfl, k1⟩
  have u0 := k1.reads u0
  have u1 := k1.reads u1
  have v0 := k1.reads v0
  have v1 := k1.reads v1
  have o0 := k1.reads o0
  have o1 := k1.reads o1
  have o2 := k1.reads o2
  have of_ : ∀ i, w1.frozen? ⟨w.heap.size + 1 + 1, i, none⟩ = false := fun i => (k1.2 _).trans (of_ i)
  have M1 : Hid (Made w.heap.size w w1) := M0.out.then_ (k1.low M0.out.1.size)
  have HA1 : Hid (OutAt w1 b off g n P) := HA0.out.kept k1
  have HB1 : Hid (OutAt w1 b2 off2 g2 m Q) := HB0.out.kept k1
  clear k1 HA0 HB0 HG1
  go_wp2_with fail
  refine (HG2.out _ HA1.out HB1.out).mono ?_
  rintro e w2 ⟨rfl, k2⟩
  have u0 := k2.reads u0
  have u1 := k2.reads u1
  have v0 := k2.reads v0
  have v1 := k2.reads v1
  have o0 := k2.reads o0
  have o1 := k2.reads o1
  have o2 := k2.reads o2
  have of_ : ∀ i, w2.frozen? ⟨w.heap.size + 1 + 1, i, none⟩ = false := fun i => (k2.2 _).trans (of_ i)
  have M2 : Hid (Made w.heap.size w w2) := M1.out.then_ (k2.low M1.out.1.size)
  have HA2 : Hid (OutAt w2 b off g n P) := HA1.out.kept k2
  have HB2 : Hid (OutAt w2 b2 off2 g2 m Q) := HB1.out.kept k2
  have lo2 : w.heap.size + 1 + 1 < w2.heap.size := World.block_lt_of_cell? _ _ o0
  clear k2 HA1 HB1 HG2
  by_cases h1 : 0 ≤ ga
  · go_wp2_with fail
    refine bodyPost_ret (v := .tuple #[tchV 0 0 none 0 0, .bool false]) (by simp [results, Try.results27, go_sem, o0, o1, o2]) rfl (touchq_none (by simp; omega) ?_)
    exact ((M2.out.put (by simp; try omega) _).put (by simp; try omega) _).put (by simp; try omega) _
  · have h2 : 0 ≤ gb := hc.resolve_left h1
    go_wp2_with fail
    refine bodyPost_ret (v := .tuple #[tchV 0 0 none 0 0, .bool false]) (by simp [results, Try.results27, go_sem, o0, o1, o2]) rfl (touchq_none (by simp; omega) ?_)
    exact ((M2.out.put (by simp; try omega) _).put (by simp; try omega) _).put (by simp; try omega) _

set_option maxRecDepth 100000 in
set_option maxHeartbeats 4000000 in
theorem tpolygons_pn (b off cap g c2 n b2 off2 cap2 g2 d2 m : Nat) (P Q : Cs) (i k : Nat) (ga gb : Int) (w : World) (hn3 : 3 ≤ n) (h8 : n ≤ 8) (hm3 : 3 ≤ m) (hm8 : m ≤ 8) (ho : OutAt w b off g n P) (ho2 : OutAt w b2 off2 g2 m Q) (iP : Cin P n) (iQ : Cin Q m) (ei : sideF P n Q m = i) (ek : sideF Q m P n = k) (ega : gapF P n Q m i = ga) (egb : gapF Q m P n k = gb) (h1 : ¬ 0 ≤ ga) (h2 : ¬ 0 ≤ gb) (h3 : ¬ ga < gb) (et : clipF P n Q m i (32 + 2 * i) = none) :
    Calls Try.prog 27 #[outV b off cap g c2 n, outV b2 off2 cap2 g2 d2 m] w (TouchQ none w) := by
  have hi : i < n := by
    rw [← ei]; have := firstF_le (gapF P n Q m) (n - 1); unfold sideF; omega
  have hk : k < m := by
    rw [← ek]; have := firstF_le (gapF Q m P n) (m - 1); unfold sideF; omega
  have HO := hid ho
  have HO2 := hid ho2
  have HG1 := hid (fun w (ho : OutAt w b off g n P) (ho2 : OutAt w b2 off2 g2 m Q) => togap_is b off cap g c2 n b2 off2 m cap2 P Q i ga w (by omega) h8 (by omega) hm8 ho ho2.1 iP iQ ei ega)
  have HG2 := hid (fun w (ho : OutAt w b off g n P) (ho2 : OutAt w b2 off2 g2 m Q) => togap_is b2 off2 cap2 g2 d2 m b off n cap Q P k gb w (by omega) hm8 (by omega) h8 ho2 ho.1 iQ iP ek egb)
  have iga : I64 ga := by rw [← ega]; exact i64_rg (gap_rg _ _ _ _ _)
  have igb : I64 gb := by rw [← egb]; exact i64_rg (gap_rg _ _ _ _ _)
  have hi8 : (i : Int) < 8 := by omega
  have hk8 : (k : Int) < 8 := by omega
  obtain ⟨j, ej⟩ : ∃ j, (i + 1) % n = j := ⟨_, rfl⟩
  have hj : j < n := by rw [← ej]; exact Nat.mod_lt _ (by omega)
  obtain ⟨⟨px, py⟩, ep⟩ : ∃ v, P i = v := ⟨_, rfl⟩
  obtain ⟨⟨qx, qy⟩, eq⟩ : ∃ v, P j = v := ⟨_, rfl⟩
  obtain ⟨⟨nx, ny⟩, en⟩ : ∃ v, normF P n i = v := ⟨_, rfl⟩
  have HSd := hid (fun w (ho : OutAt w b off g n P) => tside_is b off cap g c2 n i j P (normF P n) px py qx qy nx ny w hi h8 ej ho.1 ho.2 ep eq en)
  obtain ⟨ipx, ipy⟩ := iP i hi
  rw [ep] at ipx ipy
  obtain ⟨iqx, iqy⟩ := iP j hj
  rw [eq] at iqx iqy
  have iN := i64_norm P n i
  rw [en] at iN
  obtain ⟨inx, iny⟩ := iN
  have HP := hid (fun w (ho : OutAt w b2 off2 g2 m Q) => tpush_is px py qx qy nx ny (32 + 2 * i) b2 off2 cap2 g2 d2 m Q w (by omega) hm8 ipx ipy iqx iqy inx iny (by omega) (by omega) ho iQ none (by
    unfold clipF at et
    rw [ej, ep, eq, en] at et
    exact et))
  clear ej ep eq en et hj
  clear ho ho2 iP iQ ei ek ega egb hi hk
  go_enter Try.func27, Try.ntmps27
  go_upto_region 1 with fail
  obtain ⟨W0, eW⟩ : ∃ W, W = ((w.alloc (.cells #[.slice (some ⟨b, off, none⟩) n cap, .slice (some ⟨g, 0, none⟩) n c2] 69)).alloc (.cells #[.slice (some ⟨b2, off2, none⟩) m cap2, .slice (some ⟨g2, 0, none⟩) m d2] 69)).alloc (.cells #[.int .i64 0, .int .i64 0, .slice none 0 0] 38) := ⟨_, rfl⟩
  have M0 : Hid (Made w.heap.size w W0) := by unfold Hid; rw [eW]; exact (((Made.rfl_ _ _).cells (Nat.le_refl _) _ _).cells (by simp) _ _).cells (by simp; omega) _ _
  have u0 : W0.cell? ⟨w.heap.size, 0, none⟩ = some (.slice (some ⟨b, off, none⟩) n cap) := by rw [eW]; go_simp
  have u1 : W0.cell? ⟨w.heap.size, 1, none⟩ = some (.slice (some ⟨g, 0, none⟩) n c2) := by rw [eW]; go_simp
  have v0 : W0.cell? ⟨w.heap.size + 1, 0, none⟩ = some (.slice (some ⟨b2, off2, none⟩) m cap2) := by rw [eW]; go_simp
  have v1 : W0.cell? ⟨w.heap.size + 1, 1, none⟩ = some (.slice (some ⟨g2, 0, none⟩) m d2) := by rw [eW]; go_simp
  have o0 : W0.cell? ⟨w.heap.size + 1 + 1, 0, none⟩ = some (.int .i64 0) := by rw [eW]; go_simp
  have o1 : W0.cell? ⟨w.heap.size + 1 + 1, 1, none⟩ = some (.int .i64 0) := by rw [eW]; go_simp
  have o2 : W0.cell? ⟨w.heap.size + 1 + 1, 2, none⟩ = some (.slice none 0 0) := by rw [eW]; go_simp
  have of_ : ∀ i, W0.frozen? ⟨w.heap.size + 1 + 1, i, none⟩ = false := fun i => by rw [eW]; go_simp
  have HA0 : Hid (OutAt W0 b off g n P) := HO.out.kept M0.out
  have HB0 : Hid (OutAt W0 b2 off2 g2 m Q) := HO2.out.kept M0.out
  rw [← eW]
  clear eW
  go_wp2_with fail
  refine (HG1.out _ HA0.out HB0.out).mono ?_
  rintro e w1 ⟨rfl, k1⟩
  have u0 := k1.reads u0
  have u1 := k1.reads u1
  have v0 := k1.reads v0
  have v1 := k1.reads v1
  have o0 := k1.reads o0
  have o1 := k1.reads o1
  have o2 := k1.reads o2
  have of_ : ∀ i, w1.frozen? ⟨w.heap.size + 1 + 1, i, none⟩ = false := fun i => (k1.2 _).trans (of_ i)
  have M1 : Hid (Made w.heap.size w w1) := M0.out.then_ (k1.low M0.out.1.size)
  have HA1 : Hid (OutAt w1 b off g n P) := HA0.out.kept k1
  have HB1 : Hid (OutAt w1 b2 off2 g2 m Q) := HB0.out.kept k1
  clear k1 HA0 HB0 HG1
  go_wp2_with fail
  refine (HG2.out _ HA1.out HB1.out).mono ?_
  rintro e w2 ⟨rfl, k2⟩
  have u0 := k2.reads u0
  have u1 := k2.reads u1
  have v0 := k2.reads v0
  have v1 := k2.reads v1
  have o0 := k2.reads o0
  have o1 := k2.reads o1
  have o2 := k2.reads o2
  have of_ : ∀ i, w2.frozen? ⟨w.heap.size + 1 + 1, i, none⟩ = false := fun i => (k2.2 _).trans (of_ i)
  have M2 : Hid (Made w.heap.size w w2) := M1.out.then_ (k2.low M1.out.1.size)
  have HA2 : Hid (OutAt w2 b off g n P) := HA1.out.kept k2
  have HB2 : Hid (OutAt w2 b2 off2 g2 m Q) := HB1.out.kept k2
  have lo2 : w.heap.size + 1 + 1 < w2.heap.size := World.block_lt_of_cell? _ _ o0
  clear k2 HA1 HB1 HG2
  go_upto_region 6 with fail
  have mk : Hid (∀ (G : Nat → Option (Nat × Nat)) (u : World), MK.Cm w2 (alT none 7) G u → MK.MkUpon Try.prog w2 (alT none 7) (valT none 7) 7 G (.ok (.enter 55 #[sdV px py qx qy nx ny, outV b2 off2 cap2 g2 d2 m, .int .i64 (32 + 2 * i)]) u)) := by
    intro G u hu
    refine (HP.out u (HB2.out.kept hu.1)).mono ?_
    intro e u' hT
    obtain ⟨gg, cc, rfl, hg1, hg2, hp, kk⟩ := hT.ans
    exact ⟨gg, cc, rfl, hu.next (alT_lasts _ _) kk hg1 hg2 hp⟩
  refine MK.reg_mk (alT none 7) 10 [0, 1, 2, 3, 4, 5, 6, 7, 8, 9] [0, 1, 2, 3, 4, 5, 6, 8, 9] [7] [9] (fun _ => []) (val := valT none 7) (by kernel_rfl) (by kernel_rfl) ?hpu ?_
  case hpu => intro p hp o ho; simp at hp; subst hp; cases ho; exact extract_pure rfl
  refine MK.can_class (rest := [7, 8, 9]) [0, 1, 2, 3, 4, 5, 6] [] 62 (alT_lasts _ _) (MK.any_class _) (by kernel_rfl) rfl (by kernel_rfl) (by kernel_rfl) ?_
  apply Exists.intro
  refine ⟨?q1, ?q2⟩
  case q1 =>
    intro Ty hT fw hf _
    have HAx := hid (fun x => HA2.out.kept (hf.1 x))
    have u0' := Class.reads hf u0
    have u1' := Class.reads hf u1
    have v0' := Class.reads hf v0
    have v1' := Class.reads hf v1
    change wpQuiet _ _ _ _ [_, _, _, _, _, _, _] _
    repeat (go_big_quiet_step ((go_at_call 50; with_reducible exact hf.made (HSd.out _ (HAx.out _)))))
    exact wpQuiet_nil rfl
  refine MK.can_mk 7 45 _ rfl rfl rfl rfl ?m1 fun bb ce => ?m2
  case m1 =>
    intro G' u _ hu
    rw [show (execOp _ _).run Try.prog u = .ok (.enter 55 #[sdV px py qx qy nx ny, outV b2 off2 cap2 g2 d2 m, .int .i64 (32 + 2 * i)]) u by kernel_rfl]
    exact mk.out G' u hu
  clear mk
  rw [show valT none 7 7 bb ce = .tuple #[tchV 0 0 none 0 0, .bool false] from rfl]
  simp only [Act.put, List.setIfInBounds_toArray, List.set_cons_succ, List.set_cons_zero]
  refine MK.can_class (rest := []) [8, 9] [] 62 (alT_lasts _ _) (MK.any_class _) (by kernel_rfl) rfl (by kernel_rfl) (by kernel_rfl) ?_
  apply Exists.intro
  refine ⟨?q3, ?q4⟩
  case q3 =>
    intro Ty hT fw hf _
    change wpQuiet _ _ _ _ [_, _] _
    repeat (go_big_quiet_step (fail))
    exact wpQuiet_nil rfl
  intro w9 hu
  have q7 : MK.upd (fun _ => none) 7 (bb, ce) 7 = some (bb, ce) := by unfold MK.upd; simp
  obtain ⟨lbb, lbb9, hans⟩ := hu.2.1 7 _ q7
  have k9 := hu.1
  have o0 := k9.reads o0
  have o1 := k9.reads o1
  have o2 := k9.reads o2
  have of_ : ∀ i, w9.frozen? ⟨w.heap.size + 1 + 1, i, none⟩ = false := fun i => (k9.2 _).trans (of_ i)
  have M9 : Hid (Made w.heap.size w w9) := M2.out.then_ (k9.low M2.out.1.size)
  have lo9 : w.heap.size + 1 + 1 < w9.heap.size := World.block_lt_of_cell? _ _ o0
  have lob : w.heap.size + 1 + 1 < bb := by omega
  have bne : bb ≠ w.heap.size + 1 + 1 := by omega
  clear hans
  clear k9 u0 u1 v0 v1
  simp only [List.drop_succ_cons, List.drop_zero]
  clear hu q7
  go_wp2_with fail
  refine NoPanic.normal ?_
  go_wp2_with fail
  refine bodyPost_ret (v := .tuple #[tchV 0 0 none 0 0, .bool false]) (by simp [results, Try.results27, go_sem, o0, o1, o2]) rfl (touchq_none (by simp; omega) ?_)
  exact ((M9.out.put (by simp; try omega) _).put (by simp; try omega) _).put (by simp; try omega) _

set_option maxRecDepth 100000 in
set_option maxHeartbeats 4000000 in
theorem tpolygons_ps (b off cap g c2 n b2 off2 cap2 g2 d2 m : Nat) (P Q : Cs) (i k : Nat) (ga gb : Int) (w : World) (hn3 : 3 ≤ n) (h8 : n ≤ 8) (hm3 : 3 ≤ m) (hm8 : m ≤ 8) (ho : OutAt w b off g n P) (ho2 : OutAt w b2 off2 g2 m Q) (iP : Cin P n) (iQ : Cin Q m) (ei : sideF P n Q m = i) (ek : sideF Q m P n = k) (ega : gapF P n Q m i = ga) (egb : gapF Q m P n k = gb) (h1 : ¬ 0 ≤ ga) (h2 : ¬ 0 ≤ gb) (h3 : ¬ ga < gb) (t : Tch) (et : clipF P n Q m i (32 + 2 * i) = some t) :
    Calls Try.prog 27 #[outV b off cap g c2 n, outV b2 off2 cap2 g2 d2 m] w (TouchQ (some t) w) := by
  have hi : i < n := by
    rw [← ei]; have := firstF_le (gapF P n Q m) (n - 1); unfold sideF; omega
  have hk : k < m := by
    rw [← ek]; have := firstF_le (gapF Q m P n) (m - 1); unfold sideF; omega
  have HO := hid ho
  have HO2 := hid ho2
  have HG1 := hid (fun w (ho : OutAt w b off g n P) (ho2 : OutAt w b2 off2 g2 m Q) => togap_is b off cap g c2 n b2 off2 m cap2 P Q i ga w (by omega) h8 (by omega) hm8 ho ho2.1 iP iQ ei ega)
  have HG2 := hid (fun w (ho : OutAt w b off g n P) (ho2 : OutAt w b2 off2 g2 m Q) => togap_is b2 off2 cap2 g2 d2 m b off n cap Q P k gb w (by omega) hm8 (by omega) h8 ho2 ho.1 iQ iP ek egb)
  have iga : I64 ga := by rw [← ega]; exact i64_rg (gap_rg _ _ _ _ _)
  have igb : I64 gb := by rw [← egb]; exact i64_rg (gap_rg _ _ _ _ _)
  have hi8 : (i : Int) < 8 := by omega
  have hk8 : (k : Int) < 8 := by omega
  obtain ⟨j, ej⟩ : ∃ j, (i + 1) % n = j := ⟨_, rfl⟩
  have hj : j < n := by rw [← ej]; exact Nat.mod_lt _ (by omega)
  obtain ⟨⟨px, py⟩, ep⟩ : ∃ v, P i = v := ⟨_, rfl⟩
  obtain ⟨⟨qx, qy⟩, eq⟩ : ∃ v, P j = v := ⟨_, rfl⟩
  obtain ⟨⟨nx, ny⟩, en⟩ : ∃ v, normF P n i = v := ⟨_, rfl⟩
  have HSd := hid (fun w (ho : OutAt w b off g n P) => tside_is b off cap g c2 n i j P (normF P n) px py qx qy nx ny w hi h8 ej ho.1 ho.2 ep eq en)
  obtain ⟨ipx, ipy⟩ := iP i hi
  rw [ep] at ipx ipy
  obtain ⟨iqx, iqy⟩ := iP j hj
  rw [eq] at iqx iqy
  have iN := i64_norm P n i
  rw [en] at iN
  obtain ⟨inx, iny⟩ := iN
  have HP := hid (fun w (ho : OutAt w b2 off2 g2 m Q) => tpush_is px py qx qy nx ny (32 + 2 * i) b2 off2 cap2 g2 d2 m Q w (by omega) hm8 ipx ipy iqx iqy inx iny (by omega) (by omega) ho iQ (some t) (by
    unfold clipF at et
    rw [ej, ep, eq, en] at et
    exact et))
  obtain ⟨tx, ty, l⟩ := t
  clear ej ep eq en et hj
  clear ho ho2 iP iQ ei ek ega egb hi hk
  go_enter Try.func27, Try.ntmps27
  go_upto_region 1 with fail
  obtain ⟨W0, eW⟩ : ∃ W, W = ((w.alloc (.cells #[.slice (some ⟨b, off, none⟩) n cap, .slice (some ⟨g, 0, none⟩) n c2] 69)).alloc (.cells #[.slice (some ⟨b2, off2, none⟩) m cap2, .slice (some ⟨g2, 0, none⟩) m d2] 69)).alloc (.cells #[.int .i64 0, .int .i64 0, .slice none 0 0] 38) := ⟨_, rfl⟩
  have M0 : Hid (Made w.heap.size w W0) := by unfold Hid; rw [eW]; exact (((Made.rfl_ _ _).cells (Nat.le_refl _) _ _).cells (by simp) _ _).cells (by simp; omega) _ _
  have u0 : W0.cell? ⟨w.heap.size, 0, none⟩ = some (.slice (some ⟨b, off, none⟩) n cap) := by rw [eW]; go_simp
  have u1 : W0.cell? ⟨w.heap.size, 1, none⟩ = some (.slice (some ⟨g, 0, none⟩) n c2) := by rw [eW]; go_simp
  have v0 : W0.cell? ⟨w.heap.size + 1, 0, none⟩ = some (.slice (some ⟨b2, off2, none⟩) m cap2) := by rw [eW]; go_simp
  have v1 : W0.cell? ⟨w.heap.size + 1, 1, none⟩ = some (.slice (some ⟨g2, 0, none⟩) m d2) := by rw [eW]; go_simp
  have o0 : W0.cell? ⟨w.heap.size + 1 + 1, 0, none⟩ = some (.int .i64 0) := by rw [eW]; go_simp
  have o1 : W0.cell? ⟨w.heap.size + 1 + 1, 1, none⟩ = some (.int .i64 0) := by rw [eW]; go_simp
  have o2 : W0.cell? ⟨w.heap.size + 1 + 1, 2, none⟩ = some (.slice none 0 0) := by rw [eW]; go_simp
  have of_ : ∀ i, W0.frozen? ⟨w.heap.size + 1 + 1, i, none⟩ = false := fun i => by rw [eW]; go_simp
  have HA0 : Hid (OutAt W0 b off g n P) := HO.out.kept M0.out
  have HB0 : Hid (OutAt W0 b2 off2 g2 m Q) := HO2.out.kept M0.out
  rw [← eW]
  clear eW
  go_wp2_with fail
  refine (HG1.out _ HA0.out HB0.out).mono ?_
  rintro e w1 ⟨rfl, k1⟩
  have u0 := k1.reads u0
  have u1 := k1.reads u1
  have v0 := k1.reads v0
  have v1 := k1.reads v1
  have o0 := k1.reads o0
  have o1 := k1.reads o1
  have o2 := k1.reads o2
  have of_ : ∀ i, w1.frozen? ⟨w.heap.size + 1 + 1, i, none⟩ = false := fun i => (k1.2 _).trans (of_ i)
  have M1 : Hid (Made w.heap.size w w1) := M0.out.then_ (k1.low M0.out.1.size)
  have HA1 : Hid (OutAt w1 b off g n P) := HA0.out.kept k1
  have HB1 : Hid (OutAt w1 b2 off2 g2 m Q) := HB0.out.kept k1
  clear k1 HA0 HB0 HG1
  go_wp2_with fail
  refine (HG2.out _ HA1.out HB1.out).mono ?_
  rintro e w2 ⟨rfl, k2⟩
  have u0 := k2.reads u0
  have u1 := k2.reads u1
  have v0 := k2.reads v0
  have v1 := k2.reads v1
  have o0 := k2.reads o0
  have o1 := k2.reads o1
  have o2 := k2.reads o2
  have of_ : ∀ i, w2.frozen? ⟨w.heap.size + 1 + 1, i, none⟩ = false := fun i => (k2.2 _).trans (of_ i)
  have M2 : Hid (Made w.heap.size w w2) := M1.out.then_ (k2.low M1.out.1.size)
  have HA2 : Hid (OutAt w2 b off g n P) := HA1.out.kept k2
  have HB2 : Hid (OutAt w2 b2 off2 g2 m Q) := HB1.out.kept k2
  have lo2 : w.heap.size + 1 + 1 < w2.heap.size := World.block_lt_of_cell? _ _ o0
  clear k2 HA1 HB1 HG2
  go_upto_region 6 with fail
  have mk : Hid (∀ (G : Nat → Option (Nat × Nat)) (u : World), MK.Cm w2 (alT (some ⟨tx, ty, l⟩) 7) G u → MK.MkUpon Try.prog w2 (alT (some ⟨tx, ty, l⟩) 7) (valT (some ⟨tx, ty, l⟩) 7) 7 G (.ok (.enter 55 #[sdV px py qx qy nx ny, outV b2 off2 cap2 g2 d2 m, .int .i64 (32 + 2 * i)]) u)) := by
    intro G u hu
    refine (HP.out u (HB2.out.kept hu.1)).mono ?_
    intro e u' hT
    obtain ⟨gg, cc, rfl, hg1, hg2, hp, kk⟩ := hT.ans
    exact ⟨gg, cc, rfl, hu.next (alT_lasts _ _) kk hg1 hg2 hp⟩
  refine MK.reg_mk (alT (some ⟨tx, ty, l⟩) 7) 10 [0, 1, 2, 3, 4, 5, 6, 7, 8, 9] [0, 1, 2, 3, 4, 5, 6, 8, 9] [7] [9] (fun _ => []) (val := valT (some ⟨tx, ty, l⟩) 7) (by kernel_rfl) (by kernel_rfl) ?hpu ?_
  case hpu => intro p hp o ho; simp at hp; subst hp; cases ho; exact extract_pure rfl
  refine MK.can_class (rest := [7, 8, 9]) [0, 1, 2, 3, 4, 5, 6] [] 62 (alT_lasts _ _) (MK.any_class _) (by kernel_rfl) rfl (by kernel_rfl) (by kernel_rfl) ?_
  apply Exists.intro
  refine ⟨?q1, ?q2⟩
  case q1 =>
    intro Ty hT fw hf _
    have HAx := hid (fun x => HA2.out.kept (hf.1 x))
    have u0' := Class.reads hf u0
    have u1' := Class.reads hf u1
    have v0' := Class.reads hf v0
    have v1' := Class.reads hf v1
    change wpQuiet _ _ _ _ [_, _, _, _, _, _, _] _
    repeat (go_big_quiet_step ((go_at_call 50; with_reducible exact hf.made (HSd.out _ (HAx.out _)))))
    exact wpQuiet_nil rfl
  refine MK.can_mk 7 45 _ rfl rfl rfl rfl ?m1 fun bb ce => ?m2
  case m1 =>
    intro G' u _ hu
    rw [show (execOp _ _).run Try.prog u = .ok (.enter 55 #[sdV px py qx qy nx ny, outV b2 off2 cap2 g2 d2 m, .int .i64 (32 + 2 * i)]) u by kernel_rfl]
    exact mk.out G' u hu
  clear mk
  rw [show valT (some ⟨tx, ty, l⟩) 7 7 bb ce = .tuple #[tchV tx ty (some ⟨bb, 0, none⟩) l.length ce, .bool true] from rfl]
  simp only [Act.put, List.setIfInBounds_toArray, List.set_cons_succ, List.set_cons_zero]
  refine MK.can_class (rest := []) [8, 9] [] 62 (alT_lasts _ _) (MK.any_class _) (by kernel_rfl) rfl (by kernel_rfl) (by kernel_rfl) ?_
  apply Exists.intro
  refine ⟨?q3, ?q4⟩
  case q3 =>
    intro Ty hT fw hf _
    change wpQuiet _ _ _ _ [_, _] _
    repeat (go_big_quiet_step (fail))
    exact wpQuiet_nil rfl
  intro w9 hu
  have q7 : MK.upd (fun _ => none) 7 (bb, ce) 7 = some (bb, ce) := by unfold MK.upd; simp
  obtain ⟨lbb, lbb9, hans⟩ := hu.2.1 7 _ q7
  have k9 := hu.1
  have o0 := k9.reads o0
  have o1 := k9.reads o1
  have o2 := k9.reads o2
  have of_ : ∀ i, w9.frozen? ⟨w.heap.size + 1 + 1, i, none⟩ = false := fun i => (k9.2 _).trans (of_ i)
  have M9 : Hid (Made w.heap.size w w9) := M2.out.then_ (k9.low M2.out.1.size)
  have lo9 : w.heap.size + 1 + 1 < w9.heap.size := World.block_lt_of_cell? _ _ o0
  have lob : w.heap.size + 1 + 1 < bb := by omega
  have bne : bb ≠ w.heap.size + 1 + 1 := by omega
  have hans : 0 < l.length ∧ PtsT w9 (some ⟨bb, 0, none⟩) l := hans
  obtain ⟨hl, hpt⟩ := hans
  have HPt := hid hpt
  clear hpt
  clear k9 u0 u1 v0 v1
  simp only [List.drop_succ_cons, List.drop_zero]
  clear hu q7
  go_wp2_with fail
  refine NoPanic.normal ?_
  go_wp2_with fail
  refine bodyPost_ret (v := .tuple #[tchV tx ty (some ⟨bb, 0, none⟩) l.length ce, .bool true]) (by simp [results, Try.results27, go_sem, o0, o1, o2]) rfl ⟨bb, ce, by omega, rfl, hl, ?_, ?_⟩
  · exact HPt.out.putO bne _ _ _
  · exact ((M9.out.put (by simp; try omega) _).put (by simp; try omega) _).put (by simp; try omega) _

set_option maxRecDepth 100000 in
set_option maxHeartbeats 4000000 in
theorem tpolygons_qn (b off cap g c2 n b2 off2 cap2 g2 d2 m : Nat) (P Q : Cs) (i k : Nat) (ga gb : Int) (w : World) (hn3 : 3 ≤ n) (h8 : n ≤ 8) (hm3 : 3 ≤ m) (hm8 : m ≤ 8) (ho : OutAt w b off g n P) (ho2 : OutAt w b2 off2 g2 m Q) (iP : Cin P n) (iQ : Cin Q m) (ei : sideF P n Q m = i) (ek : sideF Q m P n = k) (ega : gapF P n Q m i = ga) (egb : gapF Q m P n k = gb) (h1 : ¬ 0 ≤ ga) (h2 : ¬ 0 ≤ gb) (h3 : ga < gb) (et : clipF Q m P n k (64 + 2 * k) = none) :
    Calls Try.prog 27 #[outV b off cap g c2 n, outV b2 off2 cap2 g2 d2 m] w (TouchQ none w) := by
  have hi : i < n := by
    rw [← ei]; have := firstF_le (gapF P n Q m) (n - 1); unfold sideF; omega
  have hk : k < m := by
    rw [← ek]; have := firstF_le (gapF Q m P n) (m - 1); unfold sideF; omega
  have HO := hid ho
  have HO2 := hid ho2
  have HG1 := hid (fun w (ho : OutAt w b off g n P) (ho2 : OutAt w b2 off2 g2 m Q) => togap_is b off cap g c2 n b2 off2 m cap2 P Q i ga w (by omega) h8 (by omega) hm8 ho ho2.1 iP iQ ei ega)
  have HG2 := hid (fun w (ho : OutAt w b off g n P) (ho2 : OutAt w b2 off2 g2 m Q) => togap_is b2 off2 cap2 g2 d2 m b off n cap Q P k gb w (by omega) hm8 (by omega) h8 ho2 ho.1 iQ iP ek egb)
  have iga : I64 ga := by rw [← ega]; exact i64_rg (gap_rg _ _ _ _ _)
  have igb : I64 gb := by rw [← egb]; exact i64_rg (gap_rg _ _ _ _ _)
  have hi8 : (i : Int) < 8 := by omega
  have hk8 : (k : Int) < 8 := by omega
  obtain ⟨j, ej⟩ : ∃ j, (k + 1) % m = j := ⟨_, rfl⟩
  have hj : j < m := by rw [← ej]; exact Nat.mod_lt _ (by omega)
  obtain ⟨⟨px, py⟩, ep⟩ : ∃ v, Q k = v := ⟨_, rfl⟩
  obtain ⟨⟨qx, qy⟩, eq⟩ : ∃ v, Q j = v := ⟨_, rfl⟩
  obtain ⟨⟨nx, ny⟩, en⟩ : ∃ v, normF Q m k = v := ⟨_, rfl⟩
  have HSd := hid (fun w (ho : OutAt w b2 off2 g2 m Q) => tside_is b2 off2 cap2 g2 d2 m k j Q (normF Q m) px py qx qy nx ny w hk hm8 ej ho.1 ho.2 ep eq en)
  obtain ⟨ipx, ipy⟩ := iQ k hk
  rw [ep] at ipx ipy
  obtain ⟨iqx, iqy⟩ := iQ j hj
  rw [eq] at iqx iqy
  have iN := i64_norm Q m k
  rw [en] at iN
  obtain ⟨inx, iny⟩ := iN
  have HP := hid (fun w (ho : OutAt w b off g n P) => tpush_is px py qx qy nx ny (64 + 2 * k) b off cap g c2 n P w (by omega) h8 ipx ipy iqx iqy inx iny (by omega) (by omega) ho iP none (by
    unfold clipF at et
    rw [ej, ep, eq, en] at et
    exact et))
  have i0 : I64 0 := by unfold I64; omega
  have EMX : Hid (negF 0 = 0) := by unfold Hid negF cl; rfl
  clear ej ep eq en et hj
  clear ho ho2 iP iQ ei ek ega egb hi hk
  go_enter Try.func27, Try.ntmps27
  go_upto_region 1 with fail
  obtain ⟨W0, eW⟩ : ∃ W, W = ((w.alloc (.cells #[.slice (some ⟨b, off, none⟩) n cap, .slice (some ⟨g, 0, none⟩) n c2] 69)).alloc (.cells #[.slice (some ⟨b2, off2, none⟩) m cap2, .slice (some ⟨g2, 0, none⟩) m d2] 69)).alloc (.cells #[.int .i64 0, .int .i64 0, .slice none 0 0] 38) := ⟨_, rfl⟩
  have M0 : Hid (Made w.heap.size w W0) := by unfold Hid; rw [eW]; exact (((Made.rfl_ _ _).cells (Nat.le_refl _) _ _).cells (by simp) _ _).cells (by simp; omega) _ _
  have u0 : W0.cell? ⟨w.heap.size, 0, none⟩ = some (.slice (some ⟨b, off, none⟩) n cap) := by rw [eW]; go_simp
  have u1 : W0.cell? ⟨w.heap.size, 1, none⟩ = some (.slice (some ⟨g, 0, none⟩) n c2) := by rw [eW]; go_simp
  have v0 : W0.cell? ⟨w.heap.size + 1, 0, none⟩ = some (.slice (some ⟨b2, off2, none⟩) m cap2) := by rw [eW]; go_simp
  have v1 : W0.cell? ⟨w.heap.size + 1, 1, none⟩ = some (.slice (some ⟨g2, 0, none⟩) m d2) := by rw [eW]; go_simp
  have o0 : W0.cell? ⟨w.heap.size + 1 + 1, 0, none⟩ = some (.int .i64 0) := by rw [eW]; go_simp
  have o1 : W0.cell? ⟨w.heap.size + 1 + 1, 1, none⟩ = some (.int .i64 0) := by rw [eW]; go_simp
  have o2 : W0.cell? ⟨w.heap.size + 1 + 1, 2, none⟩ = some (.slice none 0 0) := by rw [eW]; go_simp
  have of_ : ∀ i, W0.frozen? ⟨w.heap.size + 1 + 1, i, none⟩ = false := fun i => by rw [eW]; go_simp
  have HA0 : Hid (OutAt W0 b off g n P) := HO.out.kept M0.out
  have HB0 : Hid (OutAt W0 b2 off2 g2 m Q) := HO2.out.kept M0.out
  rw [← eW]
  clear eW
  go_wp2_with fail
  refine (HG1.out _ HA0.out HB0.out).mono ?_
  rintro e w1 ⟨rfl, k1⟩
  have u0 := k1.reads u0
  have u1 := k1.reads u1
  have v0 := k1.reads v0
  have v1 := k1.reads v1
  have o0 := k1.reads o0
  have o1 := k1.reads o1
  have o2 := k1.reads o2
  have of_ : ∀ i, w1.frozen? ⟨w.heap.size + 1 + 1, i, none⟩ = false := fun i => (k1.2 _).trans (of_ i)
  have M1 : Hid (Made w.heap.size w w1) := M0.out.then_ (k1.low M0.out.1.size)
  have HA1 : Hid (OutAt w1 b off g n P) := HA0.out.kept k1
  have HB1 : Hid (OutAt w1 b2 off2 g2 m Q) := HB0.out.kept k1
  clear k1 HA0 HB0 HG1
  go_wp2_with fail
  refine (HG2.out _ HA1.out HB1.out).mono ?_
  rintro e w2 ⟨rfl, k2⟩
  have u0 := k2.reads u0
  have u1 := k2.reads u1
  have v0 := k2.reads v0
  have v1 := k2.reads v1
  have o0 := k2.reads o0
  have o1 := k2.reads o1
  have o2 := k2.reads o2
  have of_ : ∀ i, w2.frozen? ⟨w.heap.size + 1 + 1, i, none⟩ = false := fun i => (k2.2 _).trans (of_ i)
  have M2 : Hid (Made w.heap.size w w2) := M1.out.then_ (k2.low M1.out.1.size)
  have HA2 : Hid (OutAt w2 b off g n P) := HA1.out.kept k2
  have HB2 : Hid (OutAt w2 b2 off2 g2 m Q) := HB1.out.kept k2
  have lo2 : w.heap.size + 1 + 1 < w2.heap.size := World.block_lt_of_cell? _ _ o0
  clear k2 HA1 HB1 HG2
  go_upto_region 7 with fail
  have mk : Hid (∀ (G : Nat → Option (Nat × Nat)) (u : World), MK.Cm w2 (alT none 7) G u → MK.MkUpon Try.prog w2 (alT none 7) (valT none 7) 7 G (.ok (.enter 55 #[sdV px py qx qy nx ny, outV b off cap g c2 n, .int .i64 (64 + 2 * k)]) u)) := by
    intro G u hu
    refine (HP.out u (HA2.out.kept hu.1)).mono ?_
    intro e u' hT
    obtain ⟨gg, cc, rfl, hg1, hg2, hp, kk⟩ := hT.ans
    exact ⟨gg, cc, rfl, hu.next (alT_lasts _ _) kk hg1 hg2 hp⟩
  refine MK.reg_mk (alT none 7) 12 [0, 1, 2, 3, 4, 5, 6, 7, 8, 9, 10, 11] [0, 1, 2, 3, 4, 5, 6, 8, 9, 10] [7, 11] [10] (fun _ => []) (val := valT none 7) (by kernel_rfl) (by kernel_rfl) ?hpu ?_
  case hpu => intro p hp o ho; simp at hp; subst hp; cases ho; exact extract_pure rfl
  refine MK.can_class (rest := [7, 8, 9, 10, 11]) [0, 1, 2, 3, 4, 5, 6] [] 62 (alT_lasts _ _) (MK.any_class _) (by kernel_rfl) rfl (by kernel_rfl) (by kernel_rfl) ?_
  apply Exists.intro
  refine ⟨?q1, ?q2⟩
  case q1 =>
    intro Ty hT fw hf _
    have HAx := hid (fun x => HB2.out.kept (hf.1 x))
    have u0' := Class.reads hf u0
    have u1' := Class.reads hf u1
    have v0' := Class.reads hf v0
    have v1' := Class.reads hf v1
    change wpQuiet _ _ _ _ [_, _, _, _, _, _, _] _
    repeat (go_big_quiet_step ((go_at_call 50; with_reducible exact hf.made (HSd.out _ (HAx.out _)))))
    exact wpQuiet_nil rfl
  refine MK.can_mk 7 56 _ rfl rfl rfl rfl ?m1 fun bb ce => ?m2
  case m1 =>
    intro G' u _ hu
    rw [show (execOp _ _).run Try.prog u = .ok (.enter 55 #[sdV px py qx qy nx ny, outV b off cap g c2 n, .int .i64 (64 + 2 * k)]) u by kernel_rfl]
    exact mk.out G' u hu
  clear mk
  rw [show valT none 7 7 bb ce = .tuple #[tchV 0 0 none 0 0, .bool false] from rfl]
  simp only [Act.put, List.setIfInBounds_toArray, List.set_cons_succ, List.set_cons_zero]
  refine MK.can_class (rest := [11]) [8, 9, 10] [] 62 (alT_lasts _ _) (MK.any_class _) (by kernel_rfl) rfl (by kernel_rfl) (by kernel_rfl) ?_
  apply Exists.intro
  refine ⟨?q3, ?q4⟩
  case q3 =>
    intro Ty hT fw hf _
    change wpQuiet _ _ _ _ [_, _, _] _
    repeat (go_big_quiet_step (fail))
    exact wpQuiet_nil rfl
  refine MK.can_mk 11 10 _ rfl rfl rfl rfl ?m3 fun gt ce2 => ?m4
  case m3 =>
    intro G' u _ hu
    rw [show (execOp _ _).run Try.prog u = .ok (.value (.pointer (some ⟨u.heap.size, 0, none⟩))) (u.alloc (.cells #[.int .i64 0, .int .i64 0, .slice none 0 0] 38)) by kernel_rfl]
    exact ⟨u.heap.size, 0, rfl, hu.next (alT_lasts _ _) ((Made.rfl_ _ _).cells (Nat.le_refl _) _ _) (Nat.le_refl _) (by simp) (has_new _ _ _)⟩
  rw [show valT none 7 11 gt ce2 = .pointer (some ⟨gt, 0, none⟩) from rfl]
  intro w9 hu
  have q7 : MK.upd (MK.upd (fun _ => none) 7 (bb, ce)) 11 (gt, ce2) 7 = some (bb, ce) := by unfold MK.upd; simp
  have q11 : MK.upd (MK.upd (fun _ => none) 7 (bb, ce)) 11 (gt, ce2) 11 = some (gt, ce2) := by unfold MK.upd; simp
  obtain ⟨lgt, lgt9, hgt⟩ := hu.2.1 11 _ q11
  have hGT : Has w9 gt 38 #[.int .i64 0, .int .i64 0, .slice none 0 0] := hgt
  have hne : bb ≠ gt := fun e => by
    have := hu.2.2 7 11 _ _ q7 q11 e
    omega
  obtain ⟨lbb, lbb9, hans⟩ := hu.2.1 7 _ q7
  have k9 := hu.1
  have o0 := k9.reads o0
  have o1 := k9.reads o1
  have o2 := k9.reads o2
  have of_ : ∀ i, w9.frozen? ⟨w.heap.size + 1 + 1, i, none⟩ = false := fun i => (k9.2 _).trans (of_ i)
  have M9 : Hid (Made w.heap.size w w9) := M2.out.then_ (k9.low M2.out.1.size)
  have lo9 : w.heap.size + 1 + 1 < w9.heap.size := World.block_lt_of_cell? _ _ o0
  have lob : w.heap.size + 1 + 1 < bb := by omega
  have bne : bb ≠ w.heap.size + 1 + 1 := by omega
  clear hans
  clear k9 u0 u1 v0 v1
  simp only [List.drop_succ_cons, List.drop_zero]
  have lgo : w.heap.size + 1 + 1 < gt := by omega
  have t0 := hGT.at_ 0
  have t1 := hGT.at_ 1
  have t2 := hGT.at_ 2
  simp at t0 t1 t2
  have tf : ∀ i, w9.frozen? ⟨gt, i, none⟩ = false := hGT.free
  clear hu q7 q11 hgt
  go_upto_region 8 with fail
  obtain ⟨Wa, eW⟩ : ∃ W, W = ((w9.setCell ⟨gt, 0, none⟩ (.int .i64 0)).setCell ⟨gt, 1, none⟩ (.int .i64 0)).setCell ⟨gt, 2, none⟩ (.slice none 0 0) := ⟨_, rfl⟩
  have hT : Has Wa gt 38 #[.int .i64 0, .int .i64 0, .slice none 0 0] := by rw [eW]; simpa using ((hGT.put 0 (.int .i64 0)).put 1 (.int .i64 0)).put 2 (.slice none 0 0)
  have ne : ∀ j, j < gt → j ≠ gt := fun j hj => by omega
  have o0 : Wa.cell? ⟨w.heap.size + 1 + 1, 0, none⟩ = some (.int .i64 0) := by rw [eW]; exact cell_else (ne _ (by simp; omega)) (cell_else (ne _ (by simp; omega)) (cell_else (ne _ (by simp; omega)) o0))
  have o1 : Wa.cell? ⟨w.heap.size + 1 + 1, 1, none⟩ = some (.int .i64 0) := by rw [eW]; exact cell_else (ne _ (by simp; omega)) (cell_else (ne _ (by simp; omega)) (cell_else (ne _ (by simp; omega)) o1))
  have o2 : Wa.cell? ⟨w.heap.size + 1 + 1, 2, none⟩ = some (.slice none 0 0) := by rw [eW]; exact cell_else (ne _ (by simp; omega)) (cell_else (ne _ (by simp; omega)) (cell_else (ne _ (by simp; omega)) o2))
  have of_ : ∀ i, Wa.frozen? ⟨w.heap.size + 1 + 1, i, none⟩ = false := fun i => by rw [eW]; simpa using of_ i
  have Ma : Hid (Made w.heap.size w Wa) := by unfold Hid; rw [eW]; exact ((M9.out.put (by simp; omega) _).put (by simp; omega) _).put (by simp; omega) _
  rw [← eW]
  clear eW t0 t1 t2 tf hGT
  have t0 := hT.at_ 0
  have t1 := hT.at_ 1
  have t2 := hT.at_ 2
  simp at t0 t1 t2
  refine NoPanic.normal ?_
  go_wp2_with fail
  refine (tflipped_is _ _ _ _ _ _ _ _ i0 i0 EMX.out EMX.out).mono ?_
  rintro e wz ⟨rfl, kz⟩
  have o0 := kz.reads o0
  have o1 := kz.reads o1
  have o2 := kz.reads o2
  have of_ : ∀ i, wz.frozen? ⟨w.heap.size + 1 + 1, i, none⟩ = false := fun i => (kz.2 _).trans (of_ i)
  have Mz : Hid (Made w.heap.size w wz) := Ma.out.then_ (kz.low Ma.out.1.size)
  have loz : w.heap.size + 1 + 1 < wz.heap.size := World.block_lt_of_cell? _ _ o0
  clear kz
  go_wp2_with fail
  refine bodyPost_ret (v := .tuple #[tchV 0 0 none 0 0, .bool false]) (by simp [results, Try.results27, go_sem, o0, o1, o2]) rfl (touchq_none (by simp; omega) ?_)
  exact ((Mz.out.put (by simp; try omega) _).put (by simp; try omega) _).put (by simp; try omega) _

set_option maxRecDepth 100000 in
set_option maxHeartbeats 4000000 in
theorem tpolygons_qs (b off cap g c2 n b2 off2 cap2 g2 d2 m : Nat) (P Q : Cs) (i k : Nat) (ga gb : Int) (w : World) (hn3 : 3 ≤ n) (h8 : n ≤ 8) (hm3 : 3 ≤ m) (hm8 : m ≤ 8) (ho : OutAt w b off g n P) (ho2 : OutAt w b2 off2 g2 m Q) (iP : Cin P n) (iQ : Cin Q m) (ei : sideF P n Q m = i) (ek : sideF Q m P n = k) (ega : gapF P n Q m i = ga) (egb : gapF Q m P n k = gb) (h1 : ¬ 0 ≤ ga) (h2 : ¬ 0 ≤ gb) (h3 : ga < gb) (t : Tch) (et : clipF Q m P n k (64 + 2 * k) = some t) (itx : I64 t.nx) (ity : I64 t.ny) :
    Calls Try.prog 27 #[outV b off cap g c2 n, outV b2 off2 cap2 g2 d2 m] w (TouchQ (some (negT t)) w) := by
  have hi : i < n := by
    rw [← ei]; have := firstF_le (gapF P n Q m) (n - 1); unfold sideF; omega
  have hk : k < m := by
    rw [← ek]; have := firstF_le (gapF Q m P n) (m - 1); unfold sideF; omega
  have HO := hid ho
  have HO2 := hid ho2
  have HG1 := hid (fun w (ho : OutAt w b off g n P) (ho2 : OutAt w b2 off2 g2 m Q) => togap_is b off cap g c2 n b2 off2 m cap2 P Q i ga w (by omega) h8 (by omega) hm8 ho ho2.1 iP iQ ei ega)
  have HG2 := hid (fun w (ho : OutAt w b off g n P) (ho2 : OutAt w b2 off2 g2 m Q) => togap_is b2 off2 cap2 g2 d2 m b off n cap Q P k gb w (by omega) hm8 (by omega) h8 ho2 ho.1 iQ iP ek egb)
  have iga : I64 ga := by rw [← ega]; exact i64_rg (gap_rg _ _ _ _ _)
  have igb : I64 gb := by rw [← egb]; exact i64_rg (gap_rg _ _ _ _ _)
  have hi8 : (i : Int) < 8 := by omega
  have hk8 : (k : Int) < 8 := by omega
  obtain ⟨j, ej⟩ : ∃ j, (k + 1) % m = j := ⟨_, rfl⟩
  have hj : j < m := by rw [← ej]; exact Nat.mod_lt _ (by omega)
  obtain ⟨⟨px, py⟩, ep⟩ : ∃ v, Q k = v := ⟨_, rfl⟩
  obtain ⟨⟨qx, qy⟩, eq⟩ : ∃ v, Q j = v := ⟨_, rfl⟩
  obtain ⟨⟨nx, ny⟩, en⟩ : ∃ v, normF Q m k = v := ⟨_, rfl⟩
  have HSd := hid (fun w (ho : OutAt w b2 off2 g2 m Q) => tside_is b2 off2 cap2 g2 d2 m k j Q (normF Q m) px py qx qy nx ny w hk hm8 ej ho.1 ho.2 ep eq en)
  obtain ⟨ipx, ipy⟩ := iQ k hk
  rw [ep] at ipx ipy
  obtain ⟨iqx, iqy⟩ := iQ j hj
  rw [eq] at iqx iqy
  have iN := i64_norm Q m k
  rw [en] at iN
  obtain ⟨inx, iny⟩ := iN
  have HP := hid (fun w (ho : OutAt w b off g n P) => tpush_is px py qx qy nx ny (64 + 2 * k) b off cap g c2 n P w (by omega) h8 ipx ipy iqx iqy inx iny (by omega) (by omega) ho iP (some t) (by
    unfold clipF at et
    rw [ej, ep, eq, en] at et
    exact et))
  obtain ⟨mx, emx⟩ : ∃ z, negF t.nx = z := ⟨_, rfl⟩
  obtain ⟨my, emy⟩ : ∃ z, negF t.ny = z := ⟨_, rfl⟩
  have HNT : Hid (negT t = ⟨mx, my, t.pts⟩) := by unfold Hid negT; rw [emx, emy]
  obtain ⟨tx, ty, l⟩ := t
  have EMX : Hid (negF tx = mx) := emx
  have EMY : Hid (negF ty = my) := emy
  rw [HNT.out]
  have itx : I64 tx := itx
  have ity : I64 ty := ity
  clear emx emy HNT
  clear ej ep eq en et hj
  clear ho ho2 iP iQ ei ek ega egb hi hk
  go_enter Try.func27, Try.ntmps27
  go_upto_region 1 with fail
  obtain ⟨W0, eW⟩ : ∃ W, W = ((w.alloc (.cells #[.slice (some ⟨b, off, none⟩) n cap, .slice (some ⟨g, 0, none⟩) n c2] 69)).alloc (.cells #[.slice (some ⟨b2, off2, none⟩) m cap2, .slice (some ⟨g2, 0, none⟩) m d2] 69)).alloc (.cells #[.int .i64 0, .int .i64 0, .slice none 0 0] 38) := ⟨_, rfl⟩
  have M0 : Hid (Made w.heap.size w W0) := by unfold Hid; rw [eW]; exact (((Made.rfl_ _ _).cells (Nat.le_refl _) _ _).cells (by simp) _ _).cells (by simp; omega) _ _
  have u0 : W0.cell? ⟨w.heap.size, 0, none⟩ = some (.slice (some ⟨b, off, none⟩) n cap) := by rw [eW]; go_simp
  have u1 : W0.cell? ⟨w.heap.size, 1, none⟩ = some (.slice (some ⟨g, 0, none⟩) n c2) := by rw [eW]; go_simp
  have v0 : W0.cell? ⟨w.heap.size + 1, 0, none⟩ = some (.slice (some ⟨b2, off2, none⟩) m cap2) := by rw [eW]; go_simp
  have v1 : W0.cell? ⟨w.heap.size + 1, 1, none⟩ = some (.slice (some ⟨g2, 0, none⟩) m d2) := by rw [eW]; go_simp
  have o0 : W0.cell? ⟨w.heap.size + 1 + 1, 0, none⟩ = some (.int .i64 0) := by rw [eW]; go_simp
  have o1 : W0.cell? ⟨w.heap.size + 1 + 1, 1, none⟩ = some (.int .i64 0) := by rw [eW]; go_simp
  have o2 : W0.cell? ⟨w.heap.size + 1 + 1, 2, none⟩ = some (.slice none 0 0) := by rw [eW]; go_simp
  have of_ : ∀ i, W0.frozen? ⟨w.heap.size + 1 + 1, i, none⟩ = false := fun i => by rw [eW]; go_simp
  have HA0 : Hid (OutAt W0 b off g n P) := HO.out.kept M0.out
  have HB0 : Hid (OutAt W0 b2 off2 g2 m Q) := HO2.out.kept M0.out
  rw [← eW]
  clear eW
  go_wp2_with fail
  refine (HG1.out _ HA0.out HB0.out).mono ?_
  rintro e w1 ⟨rfl, k1⟩
  have u0 := k1.reads u0
  have u1 := k1.reads u1
  have v0 := k1.reads v0
  have v1 := k1.reads v1
  have o0 := k1.reads o0
  have o1 := k1.reads o1
  have o2 := k1.reads o2
  have of_ : ∀ i, w1.frozen? ⟨w.heap.size + 1 + 1, i, none⟩ = false := fun i => (k1.2 _).trans (of_ i)
  have M1 : Hid (Made w.heap.size w w1) := M0.out.then_ (k1.low M0.out.1.size)
  have HA1 : Hid (OutAt w1 b off g n P) := HA0.out.kept k1
  have HB1 : Hid (OutAt w1 b2 off2 g2 m Q) := HB0.out.kept k1
  clear k1 HA0 HB0 HG1
  go_wp2_with fail
  refine (HG2.out _ HA1.out HB1.out).mono ?_
  rintro e w2 ⟨rfl, k2⟩
  have u0 := k2.reads u0
  have u1 := k2.reads u1
  have v0 := k2.reads v0
  have v1 := k2.reads v1
  have o0 := k2.reads o0
  have o1 := k2.reads o1
  have o2 := k2.reads o2
  have of_ : ∀ i, w2.frozen? ⟨w.heap.size + 1 + 1, i, none⟩ = false := fun i => (k2.2 _).trans (of_ i)
  have M2 : Hid (Made w.heap.size w w2) := M1.out.then_ (k2.low M1.out.1.size)
  have HA2 : Hid (OutAt w2 b off g n P) := HA1.out.kept k2
  have HB2 : Hid (OutAt w2 b2 off2 g2 m Q) := HB1.out.kept k2
  have lo2 : w.heap.size + 1 + 1 < w2.heap.size := World.block_lt_of_cell? _ _ o0
  clear k2 HA1 HB1 HG2
  go_upto_region 7 with fail
  have mk : Hid (∀ (G : Nat → Option (Nat × Nat)) (u : World), MK.Cm w2 (alT (some ⟨tx, ty, l⟩) 7) G u → MK.MkUpon Try.prog w2 (alT (some ⟨tx, ty, l⟩) 7) (valT (some ⟨tx, ty, l⟩) 7) 7 G (.ok (.enter 55 #[sdV px py qx qy nx ny, outV b off cap g c2 n, .int .i64 (64 + 2 * k)]) u)) := by
    intro G u hu
    refine (HP.out u (HA2.out.kept hu.1)).mono ?_
    intro e u' hT
    obtain ⟨gg, cc, rfl, hg1, hg2, hp, kk⟩ := hT.ans
    exact ⟨gg, cc, rfl, hu.next (alT_lasts _ _) kk hg1 hg2 hp⟩
  refine MK.reg_mk (alT (some ⟨tx, ty, l⟩) 7) 12 [0, 1, 2, 3, 4, 5, 6, 7, 8, 9, 10, 11] [0, 1, 2, 3, 4, 5, 6, 8, 9, 10] [7, 11] [10] (fun _ => []) (val := valT (some ⟨tx, ty, l⟩) 7) (by kernel_rfl) (by kernel_rfl) ?hpu ?_
  case hpu => intro p hp o ho; simp at hp; subst hp; cases ho; exact extract_pure rfl
  refine MK.can_class (rest := [7, 8, 9, 10, 11]) [0, 1, 2, 3, 4, 5, 6] [] 62 (alT_lasts _ _) (MK.any_class _) (by kernel_rfl) rfl (by kernel_rfl) (by kernel_rfl) ?_
  apply Exists.intro
  refine ⟨?q1, ?q2⟩
  case q1 =>
    intro Ty hT fw hf _
    have HAx := hid (fun x => HB2.out.kept (hf.1 x))
    have u0' := Class.reads hf u0
    have u1' := Class.reads hf u1
    have v0' := Class.reads hf v0
    have v1' := Class.reads hf v1
    change wpQuiet _ _ _ _ [_, _, _, _, _, _, _] _
    repeat (go_big_quiet_step ((go_at_call 50; with_reducible exact hf.made (HSd.out _ (HAx.out _)))))
    exact wpQuiet_nil rfl
  refine MK.can_mk 7 56 _ rfl rfl rfl rfl ?m1 fun bb ce => ?m2
  case m1 =>
    intro G' u _ hu
    rw [show (execOp _ _).run Try.prog u = .ok (.enter 55 #[sdV px py qx qy nx ny, outV b off cap g c2 n, .int .i64 (64 + 2 * k)]) u by kernel_rfl]
    exact mk.out G' u hu
  clear mk
  rw [show valT (some ⟨tx, ty, l⟩) 7 7 bb ce = .tuple #[tchV tx ty (some ⟨bb, 0, none⟩) l.length ce, .bool true] from rfl]
  simp only [Act.put, List.setIfInBounds_toArray, List.set_cons_succ, List.set_cons_zero]
  refine MK.can_class (rest := [11]) [8, 9, 10] [] 62 (alT_lasts _ _) (MK.any_class _) (by kernel_rfl) rfl (by kernel_rfl) (by kernel_rfl) ?_
  apply Exists.intro
  refine ⟨?q3, ?q4⟩
  case q3 =>
    intro Ty hT fw hf _
    change wpQuiet _ _ _ _ [_, _, _] _
    repeat (go_big_quiet_step (fail))
    exact wpQuiet_nil rfl
  refine MK.can_mk 11 10 _ rfl rfl rfl rfl ?m3 fun gt ce2 => ?m4
  case m3 =>
    intro G' u _ hu
    rw [show (execOp _ _).run Try.prog u = .ok (.value (.pointer (some ⟨u.heap.size, 0, none⟩))) (u.alloc (.cells #[.int .i64 0, .int .i64 0, .slice none 0 0] 38)) by kernel_rfl]
    exact ⟨u.heap.size, 0, rfl, hu.next (alT_lasts _ _) ((Made.rfl_ _ _).cells (Nat.le_refl _) _ _) (Nat.le_refl _) (by simp) (has_new _ _ _)⟩
  rw [show valT (some ⟨tx, ty, l⟩) 7 11 gt ce2 = .pointer (some ⟨gt, 0, none⟩) from rfl]
  intro w9 hu
  have q7 : MK.upd (MK.upd (fun _ => none) 7 (bb, ce)) 11 (gt, ce2) 7 = some (bb, ce) := by unfold MK.upd; simp
  have q11 : MK.upd (MK.upd (fun _ => none) 7 (bb, ce)) 11 (gt, ce2) 11 = some (gt, ce2) := by unfold MK.upd; simp
  obtain ⟨lgt, lgt9, hgt⟩ := hu.2.1 11 _ q11
  have hGT : Has w9 gt 38 #[.int .i64 0, .int .i64 0, .slice none 0 0] := hgt
  have hne : bb ≠ gt := fun e => by
    have := hu.2.2 7 11 _ _ q7 q11 e
    omega
  obtain ⟨lbb, lbb9, hans⟩ := hu.2.1 7 _ q7
  have k9 := hu.1
  have o0 := k9.reads o0
  have o1 := k9.reads o1
  have o2 := k9.reads o2
  have of_ : ∀ i, w9.frozen? ⟨w.heap.size + 1 + 1, i, none⟩ = false := fun i => (k9.2 _).trans (of_ i)
  have M9 : Hid (Made w.heap.size w w9) := M2.out.then_ (k9.low M2.out.1.size)
  have lo9 : w.heap.size + 1 + 1 < w9.heap.size := World.block_lt_of_cell? _ _ o0
  have lob : w.heap.size + 1 + 1 < bb := by omega
  have bne : bb ≠ w.heap.size + 1 + 1 := by omega
  have hans : 0 < l.length ∧ PtsT w9 (some ⟨bb, 0, none⟩) l := hans
  obtain ⟨hl, hpt⟩ := hans
  have HPt := hid hpt
  clear hpt
  clear k9 u0 u1 v0 v1
  simp only [List.drop_succ_cons, List.drop_zero]
  have lgo : w.heap.size + 1 + 1 < gt := by omega
  have t0 := hGT.at_ 0
  have t1 := hGT.at_ 1
  have t2 := hGT.at_ 2
  simp at t0 t1 t2
  have tf : ∀ i, w9.frozen? ⟨gt, i, none⟩ = false := hGT.free
  clear hu q7 q11 hgt
  go_upto_region 8 with fail
  obtain ⟨Wa, eW⟩ : ∃ W, W = ((w9.setCell ⟨gt, 0, none⟩ (.int .i64 tx)).setCell ⟨gt, 1, none⟩ (.int .i64 ty)).setCell ⟨gt, 2, none⟩ (.slice (some ⟨bb, 0, none⟩) l.length ce) := ⟨_, rfl⟩
  have hT : Has Wa gt 38 #[.int .i64 tx, .int .i64 ty, .slice (some ⟨bb, 0, none⟩) l.length ce] := by rw [eW]; simpa using ((hGT.put 0 (.int .i64 tx)).put 1 (.int .i64 ty)).put 2 (.slice (some ⟨bb, 0, none⟩) l.length ce)
  have ne : ∀ j, j < gt → j ≠ gt := fun j hj => by omega
  have o0 : Wa.cell? ⟨w.heap.size + 1 + 1, 0, none⟩ = some (.int .i64 0) := by rw [eW]; exact cell_else (ne _ (by simp; omega)) (cell_else (ne _ (by simp; omega)) (cell_else (ne _ (by simp; omega)) o0))
  have o1 : Wa.cell? ⟨w.heap.size + 1 + 1, 1, none⟩ = some (.int .i64 0) := by rw [eW]; exact cell_else (ne _ (by simp; omega)) (cell_else (ne _ (by simp; omega)) (cell_else (ne _ (by simp; omega)) o1))
  have o2 : Wa.cell? ⟨w.heap.size + 1 + 1, 2, none⟩ = some (.slice none 0 0) := by rw [eW]; exact cell_else (ne _ (by simp; omega)) (cell_else (ne _ (by simp; omega)) (cell_else (ne _ (by simp; omega)) o2))
  have of_ : ∀ i, Wa.frozen? ⟨w.heap.size + 1 + 1, i, none⟩ = false := fun i => by rw [eW]; simpa using of_ i
  have Ma : Hid (Made w.heap.size w Wa) := by unfold Hid; rw [eW]; exact ((M9.out.put (by simp; omega) _).put (by simp; omega) _).put (by simp; omega) _
  have HPa : Hid (PtsT Wa (some ⟨bb, 0, none⟩) l) := by unfold Hid; rw [eW]; exact HPt.out.putO hne _ _ _
  rw [← eW]
  clear eW t0 t1 t2 tf hGT
  have t0 := hT.at_ 0
  have t1 := hT.at_ 1
  have t2 := hT.at_ 2
  simp at t0 t1 t2
  refine NoPanic.normal ?_
  go_wp2_with fail
  refine (tflipped_is _ _ _ _ _ _ _ _ itx ity EMX.out EMY.out).mono ?_
  rintro e wz ⟨rfl, kz⟩
  have o0 := kz.reads o0
  have o1 := kz.reads o1
  have o2 := kz.reads o2
  have of_ : ∀ i, wz.frozen? ⟨w.heap.size + 1 + 1, i, none⟩ = false := fun i => (kz.2 _).trans (of_ i)
  have Mz : Hid (Made w.heap.size w wz) := Ma.out.then_ (kz.low Ma.out.1.size)
  have loz : w.heap.size + 1 + 1 < wz.heap.size := World.block_lt_of_cell? _ _ o0
  have HPz : Hid (PtsT wz (some ⟨bb, 0, none⟩) l) := HPa.out.kept kz
  clear kz
  go_wp2_with fail
  refine bodyPost_ret (v := .tuple #[tchV mx my (some ⟨bb, 0, none⟩) l.length ce, .bool true]) (by simp [results, Try.results27, go_sem, o0, o1, o2]) rfl ⟨bb, ce, by omega, rfl, hl, ?_, ?_⟩
  · exact HPz.out.putO bne _ _ _
  · exact ((Mz.out.put (by simp; try omega) _).put (by simp; try omega) _).put (by simp; try omega) _

theorem i64_clip' (P : Cs) (n : Nat) (Q : Cs) (m i : Nat) (key : Int) (t : Tch) (h : clipF P n Q m i key = some t) : I64 t.nx ∧ I64 t.ny := by
  have hn := i64_norm P n i
  have hp : ∀ v x y : Int × Int, ∀ key : Int, pointsF (normF P n i) v x y key = some t → I64 t.nx ∧ I64 t.ny := fun v x y key h => by
    unfold pointsF at h
    split at h
    · cases h
    · cases h; exact hn
  unfold clipF at h
  rw [clipV_o] at h
  cases hc : clipO (P i) (P ((i + 1) % n)) (Q (incF (normF P n i) Q m)) (Q ((incF (normF P n i) Q m + 1) % m)) (unitP (subV (P ((i + 1) % n)) (P i))) with
  | none => rw [hc] at h; cases h
  | some z => rw [hc] at h; exact hp _ _ _ _ h
theorem tpolygons_is (b off cap g c2 n b2 off2 cap2 g2 d2 m : Nat) (P Q : Cs) (w : World) (hn3 : 3 ≤ n) (h8 : n ≤ 8) (hm3 : 3 ≤ m) (hm8 : m ≤ 8) (ho : OutAt w b off g n P) (ho2 : OutAt w b2 off2 g2 m Q) (iP : Cin P n) (iQ : Cin Q m) (t : Option Tch) (et : polysF P n Q m = t) :
    Calls Try.prog 27 #[outV b off cap g c2 n, outV b2 off2 cap2 g2 d2 m] w (TouchQ t w) := by
  unfold polysF at et
  split at et
  · rename_i h
    subst et
    exact tpolygons_far b off cap g c2 n b2 off2 cap2 g2 d2 m P Q _ _ _ _ w hn3 h8 hm3 hm8 ho ho2 iP iQ rfl rfl rfl rfl h
  rename_i h
  have h1 : ¬ 0 ≤ gapF P n Q m (sideF P n Q m) := fun e => h (.inl e)
  have h2 : ¬ 0 ≤ gapF Q m P n (sideF Q m P n) := fun e => h (.inr e)
  split at et
  · rename_i h3
    cases hc : clipF Q m P n (sideF Q m P n) (64 + 2 * (sideF Q m P n : Int)) with
    | none =>
      rw [hc] at et
      subst et
      exact tpolygons_qn b off cap g c2 n b2 off2 cap2 g2 d2 m P Q _ _ _ _ w hn3 h8 hm3 hm8 ho ho2 iP iQ rfl rfl rfl rfl h1 h2 h3 hc
    | some z =>
      rw [hc] at et
      subst et
      obtain ⟨iz1, iz2⟩ := i64_clip' _ _ _ _ _ _ _ hc
      exact tpolygons_qs b off cap g c2 n b2 off2 cap2 g2 d2 m P Q _ _ _ _ w hn3 h8 hm3 hm8 ho ho2 iP iQ rfl rfl rfl rfl h1 h2 h3 z hc iz1 iz2
  · rename_i h3
    cases hc : clipF P n Q m (sideF P n Q m) (32 + 2 * (sideF P n Q m : Int)) with
    | none =>
      rw [hc] at et
      subst et
      exact tpolygons_pn b off cap g c2 n b2 off2 cap2 g2 d2 m P Q _ _ _ _ w hn3 h8 hm3 hm8 ho ho2 iP iQ rfl rfl rfl rfl h1 h2 h3 hc
    | some z =>
      rw [hc] at et
      subst et
      exact tpolygons_ps b off cap g c2 n b2 off2 cap2 g2 d2 m P Q _ _ _ _ w hn3 h8 hm3 hm8 ho ho2 iP iQ rfl rfl rfl rfl h1 h2 h3 z hc
end Go.Proofs.Ytmfkcdinfahjlaa.Fx
