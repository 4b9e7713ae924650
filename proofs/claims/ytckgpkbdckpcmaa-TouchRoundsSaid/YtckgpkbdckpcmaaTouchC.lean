/- Contracts of the statements' own words for touching bodies: gaps. -/
import Derived.Test.YtckgpkbdckpcmaaTouchA
namespace Go.Proofs.Ytckgpkbdckpcmaa.Fx
open Go.ChangeShapes Go.WideShapes Go.ChangeAt Go.RowKit
set_option linter.unusedVariables false

theorem info_F : (Try.prog.info? 24).map (fun i => (i.zero, i.size, i.bytes)) = some (some (.int .i64 0), 1, 8) := by kernel_rfl
theorem news_one {W : World} (x : Int) (t : TypeId) : ∀ j u, [Value.int .i64 x][j]? = some u → (W.alloc (.cells #[.int .i64 x] t)).cell? ((⟨W.heap.size, 0, none⟩ : Addr).add j) = some u := by
  intro j u hj
  rcases j with _ | j
  · simp at hj
    subst hj
    go_simp
  · simp at hj
theorem one_one (x : Int) : ∀ u ∈ [Value.int .i64 x], u.oneCell' = true := by
  intro u hu
  simp at hu
  subst hu
  rfl

theorem i64_norm (P : Cs) (n i : Nat) : I64 (normF P n i).1 ∧ I64 (normF P n i).2 := by
  unfold normF
  simp only []
  obtain ⟨h1, h2⟩ := i64_u (subF (P ((i + 1) % n)).1 (P i).1) (subF (P ((i + 1) % n)).2 (P i).2)
  exact ⟨h2, i64_neg h1⟩

theorem cell_new {w W : World} {c : Array Value} {t : TypeId} {p : Addr} {x : Value} (e : W = w.alloc (.cells c t)) (k : w.cell? p = some x) : W.cell? p = some x := by rw [e]; exact cell_more k

set_option maxRecDepth 100000 in
set_option maxHeartbeats 2000000 in
theorem gaps_many (b off n cap b2 off2 m : Nat) (P Q : Cs) (w : World) (hn : 0 < n) (h8 : n ≤ 8) (hm : 2 ≤ m) (hm8 : m ≤ 8) (hp : Pts w b off n P) (hq : Pts w b2 off2 m Q) (iP : Cin P n) (iQ : Cin Q m) :
    Calls Try.prog 22 #[.slice (some ⟨b, off, none⟩) n cap, .slice (some ⟨b2, off2, none⟩) m m] w fun e w' => ∃ g c, e = .returned (.slice (some ⟨g, 0, none⟩) n c) ∧ Ints w' g n (gapF P n Q m) ∧ Made w.heap.size w w' := by
  have HP := hid hp
  have HQ := hid hq
  have IP := hid iP
  have IQ := hid iQ
  have HN := hid (fun w hp => normals_is b off n cap P w hn h8 hp iP)
  obtain ⟨i0, hi, hz0, hz1, hz2⟩ := info_parts info_F
  have iHi := hid hi; have iH0 := hid hz0; have iH1 := hid hz1; have iH2 := hid hz2
  have hm1 : m ≠ 1 := by omega
  have hm2 : 1 ≤ (m : Int) := by omega
  have hm3 : 0 < m := by omega
  clear hp hq iP iQ hi hz0 hz1 hz2
  go_enter Try.func22, Try.ntmps22
  go_wp2_with fail
  refine (HN.out _ HP.out).mono ?_
  rintro e w1 ⟨G, rfl, hG, hR, k1⟩
  have M1 := hid k1
  have HP1 : Hid (Pts w1 b off n P) := HP.out.kept k1
  have HQ1 : Hid (Pts w1 b2 off2 m Q) := HQ.out.kept k1
  have HR := hid hR
  have lG := hR.here
  have lb : b < w1.heap.size := HP1.out.here hn
  have lb2 : b2 < w1.heap.size := HQ1.out.here hm3
  clear k1 hG hR
  go_wp2_with fail
  go_loopg [5, 14] n (fun gg o i wr => ∃ (k : Nat) (sv : Value), k + gg = n ∧ i = .int .i64 k ∧ sv = o ∧ Hid (wr.ownsRow w1.heap.size 24 1 sv k (ints (gapF P n Q m) k)) ∧ Hid (Made w1.heap.size w1 wr))
  case atStart => exact ⟨0, _, by omega, rfl, rfl, World.ownsRow_nil _ _ _ _, Made.rfl_ _ _⟩
  case round =>
    obtain ⟨k, sv, hk, rfl, eo, HW, HM⟩ := hrel
    subst eo
    by_cases hlt : k < n
    · obtain ⟨N, eN⟩ : ∃ x, normF P n k = x := ⟨_, rfl⟩
      obtain ⟨nx, ny⟩ := N
      obtain ⟨V, eV⟩ : ∃ x, P k = x := ⟨_, rfl⟩
      obtain ⟨px, py⟩ := V
      obtain ⟨n0, n1⟩ := (HR.out.stays HM.out lG).pts k hlt
      rw [eN, Nat.zero_add] at n0 n1
      obtain ⟨p0, p1⟩ := (HP1.out.stays HM.out lb) k hlt
      rw [eV] at p0 p1
      have iN := i64_norm P n k
      rw [eN] at iN
      obtain ⟨inx, iny⟩ := iN
      obtain ⟨ipx, ipy⟩ := IP.out k hlt
      rw [eV] at ipx ipy
      obtain ⟨H, eH⟩ : ∃ h : Nat → Int, (fun j => dotV (nx, ny) (subV (Q j) (px, py))) = h := ⟨_, rfl⟩
      have HG : Hid (gapF P n Q m k = leastF H (m - 1)) := by unfold Hid gapF; rw [eN, eV, eH]
      have HH : Hid (∀ j a c, Q j = (a, c) → addF (mulF nx (subF a px)) (mulF ny (subF c py)) = H j) := fun j a c e => by rw [← eH]; simp only [dotV, subV, e]
      obtain ⟨Q0, eQ⟩ : ∃ x, Q 0 = x := ⟨_, rfl⟩
      obtain ⟨qx, qy⟩ := Q0
      obtain ⟨q0, q1⟩ := (HQ1.out.stays HM.out lb2) 0 hm3
      rw [eQ] at q0 q1
      simp only [Nat.zero_mul, Nat.add_zero] at q0 q1
      obtain ⟨iqx, iqy⟩ := IQ.out 0 hm3
      rw [eQ] at iqx iqy
      obtain ⟨dx, ex⟩ : ∃ x, subF qx px = x := ⟨_, rfl⟩
      obtain ⟨dy, ey⟩ : ∃ x, subF qy py = x := ⟨_, rfl⟩
      have idx : I64 dx := by rw [← ex]; exact i64_sub _ _
      have idy : I64 dy := by rw [← ey]; exact i64_sub _ _
      have ED : addF (mulF nx dx) (mulF ny dy) = H 0 := by rw [← ex, ← ey]; exact HH.out 0 qx qy eQ
      have ED := hid ED
      have EV := hid eV
      have EX := hid ex
      have EY := hid ey
      clear eN eV eH eQ ex ey
      go_upto_region 5 with fail
      obtain ⟨W2, eW⟩ : ∃ W, W = wr.alloc (.cells #[.int .i64 nx, .int .i64 ny] 26) := ⟨_, rfl⟩
      obtain ⟨B, eB⟩ : ∃ B, wr.heap.size = B := ⟨_, rfl⟩
      have hT : Has W2 B 26 #[.int .i64 nx, .int .i64 ny] := by rw [eW, ← eB]; exact has_new _ _ _
      have M2 : Hid (Made w1.heap.size w1 W2) := by unfold Hid; rw [eW]; exact HM.out.cells HM.out.1.size _ _
      have p0 := cell_new eW p0
      have p1 := cell_new eW p1
      have q0 := cell_new eW q0
      have q1 := cell_new eW q1
      have O2 : Hid (W2.ownsRow w1.heap.size 24 1 sv k (ints (gapF P n Q m) k)) := by unfold Hid; rw [eW]; exact HW.out.alloc _
      have lB : B < W2.heap.size := hT.here
      have lw : w1.heap.size ≤ W2.heap.size := M2.out.1.size
      rw [← eW, eB]
      clear eW eB n0 n1
      have b0 := hT.at_ 0
      have b1 := hT.at_ 1
      simp at b0 b1
      refine reg_made (by kernel_rfl) (by kernel_rfl) ?_
      intro T hT' f hf
      have p0' := Class.reads hf p0
      have p1' := Class.reads hf p1
      have q0' := Class.reads hf q0
      have q1' := Class.reads hf q1
      have b0' := Class.reads hf b0
      have b1' := Class.reads hf b1
      repeat (go_big_quiet_step ((first
        | (go_at_call 19; with_reducible exact hf.made (vsub_is _ _ _ _ _ _ _ iqx iqy ipx ipy EX.out EY.out))
        | (go_at_call 43; with_reducible exact hf.made (vdot_is _ _ _ _ _ _ inx iny idx idy ED.out)))))
      refine wpQuiet_nil ?_
      intro w3 h3
      have k3 := hf.here h3
      have M3 : Hid (Made w1.heap.size w1 w3) := M2.out.then_ (k3.low lw)
      have O3 : Hid (w3.ownsRow w1.heap.size 24 1 sv k (ints (gapF P n Q m) k)) := own_stays O2.out k3
      have hT3 : Hid (Has w3 B 26 #[.int .i64 nx, .int .i64 ny]) := hT.stays k3 lB
      have lB3 : B < w3.heap.size := hT3.out.here
      clear k3 h3 hf p0 p1 q0 q1 b0 b1 p0' p1' q0' q1' b0' b1' hT
      go_wp2_with fail
      go_loopg [8, 32] (m - 1) (fun gg gv j wr => ∃ t : Nat, t + gg = m - 1 ∧ j = .int .i64 t ∧ gv = .int .i64 (leastF H t) ∧ Hid (Made w3.heap.size w3 wr))
      case atStart => exact ⟨0, by omega, rfl, rfl, Made.rfl_ _ _⟩
      case round =>
        obtain ⟨t, ht, rfl, rfl, HM4⟩ := hrel
        by_cases htm : t < m - 1
        · obtain ⟨Q1, eQ⟩ : ∃ x, Q (t + 1) = x := ⟨_, rfl⟩
          obtain ⟨qx1, qy1⟩ := Q1
          have M4 : Hid (Made w1.heap.size w1 wr) := M3.out.then_ (HM4.out.low M3.out.1.size)
          obtain ⟨q0, q1⟩ := (HQ1.out.stays M4.out lb2) (t + 1) (by omega)
          rw [eQ, show off2 + (t + 1) * 2 = off2 + 2 + t * 2 by omega] at q0
          rw [eQ, show off2 + (t + 1) * 2 = off2 + 2 + t * 2 by omega] at q1
          obtain ⟨iqx1, iqy1⟩ := IQ.out (t + 1) (by omega)
          rw [eQ] at iqx1 iqy1
          obtain ⟨p0, p1⟩ := (HP1.out.stays M4.out lb) k hlt
          rw [EV.out] at p0 p1
          have hT4 := hT3.out.stays HM4.out lB3
          have b0 := hT4.at_ 0
          have b1 := hT4.at_ 1
          simp at b0 b1
          obtain ⟨ux, eux⟩ : ∃ x, subF qx1 px = x := ⟨_, rfl⟩
          obtain ⟨uy, euy⟩ : ∃ x, subF qy1 py = x := ⟨_, rfl⟩
          have iux : I64 ux := by rw [← eux]; exact i64_sub _ _
          have iuy : I64 uy := by rw [← euy]; exact i64_sub _ _
          obtain ⟨y, ey⟩ : ∃ y, H (t + 1) = y := ⟨_, rfl⟩
          obtain ⟨x, ex⟩ : ∃ x, leastF H t = x := ⟨_, rfl⟩
          obtain ⟨z, ez⟩ : ∃ z, min x y = z := ⟨_, rfl⟩
          have EUD : Hid (addF (mulF nx ux) (mulF ny uy) = y) := by unfold Hid; rw [← eux, ← euy, ← ey]; exact HH.out (t + 1) qx1 qy1 eQ
          have EUX := hid eux
          have EUY := hid euy
          have EZ : Hid (leastF H (t + 1) = z) := by unfold Hid leastF; rw [ex, ey, ez]
          rw [ex]
          clear eux euy ey ex eQ hT4
          go_upto_region 9 with fail
          obtain ⟨W5, eW⟩ : ∃ W, W = wr.alloc (.cells #[.int .i64 qx1, .int .i64 qy1] 26) := ⟨_, rfl⟩
          have hT5 : Has W5 wr.heap.size 26 #[.int .i64 qx1, .int .i64 qy1] := by rw [eW]; exact has_new _ _ _
          have M5 : Hid (Made w3.heap.size w3 W5) := by unfold Hid; rw [eW]; exact HM4.out.cells HM4.out.1.size _ _
          have p0 := cell_new eW p0
          have p1 := cell_new eW p1
          have b0 := cell_new eW b0
          have b1 := cell_new eW b1
          rw [← eW]
          clear eW q0 q1
          have q0 := hT5.at_ 0
          have q1 := hT5.at_ 1
          simp at q0 q1
          refine reg_made (by kernel_rfl) (by kernel_rfl) ?_
          intro T hT' f hf
          have p0' := Class.reads hf p0
          have p1' := Class.reads hf p1
          have q0' := Class.reads hf q0
          have q1' := Class.reads hf q1
          have b0' := Class.reads hf b0
          have b1' := Class.reads hf b1
          repeat (go_big_quiet_step ((first
            | (go_at_call 19; with_reducible exact hf.made (vsub_is _ _ _ _ _ _ _ iqx1 iqy1 ipx ipy EUX.out EUY.out))
            | (go_at_call 43; with_reducible exact hf.made (vdot_is _ _ _ _ _ _ inx iny iux iuy EUD.out)))))
          refine wpQuiet_nil ?_
          intro w6 h6
          have k6 := hf.here h6
          have M6 : Hid (Made w3.heap.size w3 w6) := M5.out.then_ (k6.low M5.out.1.size)
          clear k6 h6 hf p0 p1 q0 q1 b0 b1 p0' p1' q0' q1' b0' b1' hT5
          go_wp2_with fail
          go_roundg (m - 1 - t - 1)
          case rel => exact ⟨t + 1, by omega, by go_num, by rw [EZ.out], M6⟩
          case measure => omega
        · have e : t = m - 1 := by omega
          subst e
          have M4 : Hid (Made w1.heap.size w1 wr) := M3.out.then_ (HM4.out.low M3.out.1.size)
          have O4 : Hid (wr.ownsRow w1.heap.size 24 1 sv k (ints (gapF P n Q m) k)) := own_stays O3.out HM4.out
          obtain ⟨x, ex⟩ : ∃ x, leastF H (m - 1) = x := ⟨_, rfl⟩
          have HX : Hid (gapF P n Q m k = x) := HG.out.trans ex
          rw [ex]
          have lv : w1.heap.size ≤ wr.heap.size := M4.out.1.size
          have hsv : ∀ b, sv.ownBlock = some b → w1.heap.size ≤ b := fun b hb => (O4.out.lt b hb).1
          have HSV := hid hsv
          clear ex hsv HM4 hT3 lB3
          go_wp2_with (at_builtin; refine wpList_append_made _ rfl (.tmp 47) (.tmp 49) 57 rfl w1.heap.size 24 i0 (.int .i64 0) 1 8 Try.underlying57 iHi.out iH0.out iH1.out iH2.out rfl (by decide) sv k (ints (gapF P n Q m) k) rfl (O4.out.alloc _) ⟨wr.heap.size, 0, none⟩ 1 1 [.int .i64 x] rfl rfl (news_one _ _) (one_one _) (by unfold maxLen; omega) (by omega) (by simp; omega) (by omega) ?_)
          intro v' w7 hown hgr hfr
          rw [ints_next _ k HX.out] at hown
          have M7 : Hid (Made w1.heap.size w1 w7) := (M4.out.cells (by omega) _ _).app hgr hfr (by simp; omega) (fun k hk => by have := HSV.out k hk; omega)
          have O7 := hid hown
          clear hown hgr hfr
          go_wp2_with fail
          go_roundg (n - k - 1)
          case rel => exact ⟨k + 1, v', by omega, by go_num, rfl, O7, M7⟩
          case measure => omega
    · have e : k = n := by omega
      subst e
      obtain ⟨g, c, rfl, hg, hI⟩ := Ints.of_own HW.out hn
      have HI := hid hI
      have MM : Hid (Made w.heap.size w wr) := M1.out.then_ (HM.out.low M1.out.1.size)
      clear hI hg HW
      go_wp2_with fail
      go_ret
      exact ⟨g, c, rfl, HI.out, MM.out⟩
set_option maxRecDepth 100000 in
set_option maxHeartbeats 2000000 in
theorem gaps_one (b off n cap b2 off2 : Nat) (P Q : Cs) (w : World) (hn : 0 < n) (h8 : n ≤ 8) (hp : Pts w b off n P) (hq : Pts w b2 off2 1 Q) (iP : Cin P n) (iQ : Cin Q 1) :
    Calls Try.prog 22 #[.slice (some ⟨b, off, none⟩) n cap, .slice (some ⟨b2, off2, none⟩) 1 1] w fun e w' => ∃ g c, e = .returned (.slice (some ⟨g, 0, none⟩) n c) ∧ Ints w' g n (gapF P n Q 1) ∧ Made w.heap.size w w' := by
  have HP := hid hp
  have HQ := hid hq
  have IP := hid iP
  have IQ := hid iQ
  have HN := hid (fun w hp => normals_is b off n cap P w hn h8 hp iP)
  obtain ⟨i0, hi, hz0, hz1, hz2⟩ := info_parts info_F
  have iHi := hid hi; have iH0 := hid hz0; have iH1 := hid hz1; have iH2 := hid hz2
  have hm3 : 0 < 1 := by omega
  clear hp hq iP iQ hi hz0 hz1 hz2
  go_enter Try.func22, Try.ntmps22
  go_wp2_with fail
  refine (HN.out _ HP.out).mono ?_
  rintro e w1 ⟨G, rfl, hG, hR, k1⟩
  have M1 := hid k1
  have HP1 : Hid (Pts w1 b off n P) := HP.out.kept k1
  have HQ1 : Hid (Pts w1 b2 off2 1 Q) := HQ.out.kept k1
  have HR := hid hR
  have lG := hR.here
  have lb : b < w1.heap.size := HP1.out.here hn
  have lb2 : b2 < w1.heap.size := HQ1.out.here hm3
  clear k1 hG hR
  go_wp2_with fail
  go_loopg [5, 14] n (fun gg o i wr => ∃ (k : Nat) (sv : Value), k + gg = n ∧ i = .int .i64 k ∧ sv = o ∧ Hid (wr.ownsRow w1.heap.size 24 1 sv k (ints (gapF P n Q 1) k)) ∧ Hid (Made w1.heap.size w1 wr))
  case atStart => exact ⟨0, _, by omega, rfl, rfl, World.ownsRow_nil _ _ _ _, Made.rfl_ _ _⟩
  case round =>
    obtain ⟨k, sv, hk, rfl, eo, HW, HM⟩ := hrel
    subst eo
    by_cases hlt : k < n
    · obtain ⟨N, eN⟩ : ∃ x, normF P n k = x := ⟨_, rfl⟩
      obtain ⟨nx, ny⟩ := N
      obtain ⟨V, eV⟩ : ∃ x, P k = x := ⟨_, rfl⟩
      obtain ⟨px, py⟩ := V
      obtain ⟨n0, n1⟩ := (HR.out.stays HM.out lG).pts k hlt
      rw [eN, Nat.zero_add] at n0 n1
      obtain ⟨p0, p1⟩ := (HP1.out.stays HM.out lb) k hlt
      rw [eV] at p0 p1
      have iN := i64_norm P n k
      rw [eN] at iN
      obtain ⟨inx, iny⟩ := iN
      obtain ⟨ipx, ipy⟩ := IP.out k hlt
      rw [eV] at ipx ipy
      obtain ⟨H, eH⟩ : ∃ h : Nat → Int, (fun j => dotV (nx, ny) (subV (Q j) (px, py))) = h := ⟨_, rfl⟩
      have HG : Hid (gapF P n Q 1 k = leastF H (1 - 1)) := by unfold Hid gapF; rw [eN, eV, eH]
      have HH : Hid (∀ j a c, Q j = (a, c) → addF (mulF nx (subF a px)) (mulF ny (subF c py)) = H j) := fun j a c e => by rw [← eH]; simp only [dotV, subV, e]
      obtain ⟨Q0, eQ⟩ : ∃ x, Q 0 = x := ⟨_, rfl⟩
      obtain ⟨qx, qy⟩ := Q0
      obtain ⟨q0, q1⟩ := (HQ1.out.stays HM.out lb2) 0 hm3
      rw [eQ] at q0 q1
      simp only [Nat.zero_mul, Nat.add_zero] at q0 q1
      obtain ⟨iqx, iqy⟩ := IQ.out 0 hm3
      rw [eQ] at iqx iqy
      obtain ⟨dx, ex⟩ : ∃ x, subF qx px = x := ⟨_, rfl⟩
      obtain ⟨dy, ey⟩ : ∃ x, subF qy py = x := ⟨_, rfl⟩
      have idx : I64 dx := by rw [← ex]; exact i64_sub _ _
      have idy : I64 dy := by rw [← ey]; exact i64_sub _ _
      have ED : addF (mulF nx dx) (mulF ny dy) = H 0 := by rw [← ex, ← ey]; exact HH.out 0 qx qy eQ
      have ED := hid ED
      have EV := hid eV
      have EX := hid ex
      have EY := hid ey
      clear eN eV eH eQ ex ey
      go_upto_region 5 with fail
      obtain ⟨W2, eW⟩ : ∃ W, W = wr.alloc (.cells #[.int .i64 nx, .int .i64 ny] 26) := ⟨_, rfl⟩
      obtain ⟨B, eB⟩ : ∃ B, wr.heap.size = B := ⟨_, rfl⟩
      have hT : Has W2 B 26 #[.int .i64 nx, .int .i64 ny] := by rw [eW, ← eB]; exact has_new _ _ _
      have M2 : Hid (Made w1.heap.size w1 W2) := by unfold Hid; rw [eW]; exact HM.out.cells HM.out.1.size _ _
      have p0 := cell_new eW p0
      have p1 := cell_new eW p1
      have q0 := cell_new eW q0
      have q1 := cell_new eW q1
      have O2 : Hid (W2.ownsRow w1.heap.size 24 1 sv k (ints (gapF P n Q 1) k)) := by unfold Hid; rw [eW]; exact HW.out.alloc _
      have lB : B < W2.heap.size := hT.here
      have lw : w1.heap.size ≤ W2.heap.size := M2.out.1.size
      rw [← eW, eB]
      clear eW eB n0 n1
      have b0 := hT.at_ 0
      have b1 := hT.at_ 1
      simp at b0 b1
      refine reg_made (by kernel_rfl) (by kernel_rfl) ?_
      intro T hT' f hf
      have p0' := Class.reads hf p0
      have p1' := Class.reads hf p1
      have q0' := Class.reads hf q0
      have q1' := Class.reads hf q1
      have b0' := Class.reads hf b0
      have b1' := Class.reads hf b1
      repeat (go_big_quiet_step ((first
        | (go_at_call 19; with_reducible exact hf.made (vsub_is _ _ _ _ _ _ _ iqx iqy ipx ipy EX.out EY.out))
        | (go_at_call 43; with_reducible exact hf.made (vdot_is _ _ _ _ _ _ inx iny idx idy ED.out)))))
      refine wpQuiet_nil ?_
      intro w3 h3
      have k3 := hf.here h3
      have M3 : Hid (Made w1.heap.size w1 w3) := M2.out.then_ (k3.low lw)
      have O3 : Hid (w3.ownsRow w1.heap.size 24 1 sv k (ints (gapF P n Q 1) k)) := own_stays O2.out k3
      have hT3 : Hid (Has w3 B 26 #[.int .i64 nx, .int .i64 ny]) := hT.stays k3 lB
      have lB3 : B < w3.heap.size := hT3.out.here
      clear k3 h3 hf p0 p1 q0 q1 b0 b1 p0' p1' q0' q1' b0' b1' hT
      go_wp2_with fail
      go_loopg [8, 32] (1 - 1) (fun gg gv j wr => ∃ t : Nat, t + gg = 1 - 1 ∧ j = .int .i64 t ∧ gv = .int .i64 (leastF H t) ∧ Hid (Made w3.heap.size w3 wr))
      case atStart => exact ⟨0, by omega, rfl, rfl, Made.rfl_ _ _⟩
      case round =>
        obtain ⟨t, ht, rfl, rfl, HM4⟩ := hrel
        by_cases htm : t < 1 - 1
        · exfalso; omega
        · have e : t = 1 - 1 := by omega
          subst e
          have M4 : Hid (Made w1.heap.size w1 wr) := M3.out.then_ (HM4.out.low M3.out.1.size)
          have O4 : Hid (wr.ownsRow w1.heap.size 24 1 sv k (ints (gapF P n Q 1) k)) := own_stays O3.out HM4.out
          obtain ⟨x, ex⟩ : ∃ x, leastF H (1 - 1) = x := ⟨_, rfl⟩
          have HX : Hid (gapF P n Q 1 k = x) := HG.out.trans ex
          rw [ex]
          have lv : w1.heap.size ≤ wr.heap.size := M4.out.1.size
          have hsv : ∀ b, sv.ownBlock = some b → w1.heap.size ≤ b := fun b hb => (O4.out.lt b hb).1
          have HSV := hid hsv
          clear ex hsv HM4 hT3 lB3
          go_wp2_with (at_builtin; refine wpList_append_made _ rfl (.tmp 47) (.tmp 49) 57 rfl w1.heap.size 24 i0 (.int .i64 0) 1 8 Try.underlying57 iHi.out iH0.out iH1.out iH2.out rfl (by decide) sv k (ints (gapF P n Q 1) k) rfl (O4.out.alloc _) ⟨wr.heap.size, 0, none⟩ 1 1 [.int .i64 x] rfl rfl (news_one _ _) (one_one _) (by unfold maxLen; omega) (by omega) (by simp; omega) (by omega) ?_)
          intro v' w7 hown hgr hfr
          rw [ints_next _ k HX.out] at hown
          have M7 : Hid (Made w1.heap.size w1 w7) := (M4.out.cells (by omega) _ _).app hgr hfr (by simp; omega) (fun k hk => by have := HSV.out k hk; omega)
          have O7 := hid hown
          clear hown hgr hfr
          go_wp2_with fail
          go_roundg (n - k - 1)
          case rel => exact ⟨k + 1, v', by omega, by go_num, rfl, O7, M7⟩
          case measure => omega
    · have e : k = n := by omega
      subst e
      obtain ⟨g, c, rfl, hg, hI⟩ := Ints.of_own HW.out hn
      have HI := hid hI
      have MM : Hid (Made w.heap.size w wr) := M1.out.then_ (HM.out.low M1.out.1.size)
      clear hI hg HW
      go_wp2_with fail
      go_ret
      exact ⟨g, c, rfl, HI.out, MM.out⟩

/-- how far the corners of one lie from each side of the other -/
theorem gaps_is (b off n cap b2 off2 m : Nat) (P Q : Cs) (w : World) (hn : 0 < n) (h8 : n ≤ 8) (hm : 0 < m) (hm8 : m ≤ 8) (hp : Pts w b off n P) (hq : Pts w b2 off2 m Q) (iP : Cin P n) (iQ : Cin Q m) :
    Calls Try.prog 22 #[.slice (some ⟨b, off, none⟩) n cap, .slice (some ⟨b2, off2, none⟩) m m] w fun e w' => ∃ g c, e = .returned (.slice (some ⟨g, 0, none⟩) n c) ∧ Ints w' g n (gapF P n Q m) ∧ Made w.heap.size w w' := by
  by_cases h1 : m = 1
  · subst h1; exact gaps_one b off n cap b2 off2 P Q w hn h8 hp hq iP iQ
  · exact gaps_many b off n cap b2 off2 m P Q w hn h8 (by omega) hm8 hp hq iP iQ
theorem i64_gap (P : Cs) (n : Nat) (Q : Cs) (m i : Nat) : I64 (gapF P n Q m i) := by
  unfold gapF
  obtain ⟨j, _, e⟩ := leastF_at (fun j => dotV (normF P n i) (subV (Q j) (P i))) (m - 1)
  rw [e]
  exact i64_add _ _
end Go.Proofs.Ytckgpkbdckpcmaa.Fx
