/- TouchTurned: the walk, of two polygons; whole. -/
import Derived.Test.YtckgpkbdckpcmaaTuU
import Derived.Test.YtckgpkbdckpcmaaTuA
import Derived.Test.YtckgpkbdckpcmaaTouchY
namespace Go.Proofs.Ytckgpkbdckpcmaa.Fx
open Go.ChangeShapes Go.WideShapes Go.ChangeAt Go.RowKit
set_option linter.unusedVariables false

set_option maxRecDepth 100000 in
set_option maxHeartbeats 1000000 in
theorem tgap_new (b n b2 m : Nat) (P Q : Cs) (i : Nat) (r : Int) (w : World) (hn : 0 < n) (h8 : n ≤ 8) (hm : 0 < m) (hm8 : m ≤ 8) (hp : Pts w b 0 n P) (hq : Pts w b2 0 m Q) (iP : Cin P n) (iQ : Cin Q m)
    (ei : sideF P n Q m = i) (er : gapF P n Q m i = r) :
    Calls Try.prog 23 #[.slice (some ⟨b, 0, none⟩) n n, .slice (some ⟨b2, 0, none⟩) m m] w fun e w' => e = .returned (.tuple #[.int .i64 i, .int .i64 r]) ∧ w.heap.size < w'.heap.size ∧ Made w.heap.size w w' := by
  have HQ := hid hq
  have IQ := hid iQ
  have IP := hid iP
  have EI := hid ei
  have ER := hid er
  have HO := hid (toutlined_is b 0 n n P w hn h8 hp iP)
  clear hp hq iP iQ ei er
  go_enter Try.func23, Try.ntmps23
  go_wp2_with fail
  refine HO.out.mono ?_
  rintro e w1 ⟨g, rfl, hg, ho, k1⟩
  have HO1 := hid ho
  have hs : w.heap.size < w1.heap.size := by have := ho.2.here hn; omega
  have HQ1 : Hid (Pts w1 b2 0 m Q) := HQ.out.kept k1
  have M1 := hid k1
  clear ho k1 hg HO
  go_wp2_with fail
  refine (togap_is _ _ _ _ _ _ _ _ _ _ _ _ _ _ _ hn h8 hm hm8 HO1.out HQ1.out IP.out IQ.out EI.out ER.out).mono ?_
  rintro e w2 ⟨rfl, k2⟩
  have M2 : Hid (Made w.heap.size w w2) := M1.out.then_ (k2.low M1.out.1.size)
  have hs2 : w.heap.size < w2.heap.size := by have := k2.1.size; omega
  clear k2
  go_wp2_with fail
  refine bodyPost_ret (v := .tuple #[.int .i64 i, .int .i64 r]) (by simp [results, Try.results23, go_sem]) rfl ⟨rfl, hs2, M2.out⟩
/-- corners of two polygons made, and their gap -/
def alG (n : Nat) (P : Cs) (m : Nat) (Q : Cs) (i : Nat) (v : World) (g e : Nat) : Prop := if i = 1 then Row v g 26 n P else if i = 3 then Row v g 26 m Q else True
def valG (n m : Nat) (k : Nat) (r : Int) (i g e : Nat) : Value := if i = 1 then .slice (some ⟨g, 0, none⟩) n n else if i = 3 then .slice (some ⟨g, 0, none⟩) m m else .tuple #[.int .i64 k, .int .i64 r]
theorem alG_lasts (n : Nat) (P : Cs) (m : Nat) (Q : Cs) : MK.Lasts (alG n P m Q) := fun i u v g e h hg k => by
  unfold alG at h ⊢
  split
  · rename_i e1; rw [if_pos e1] at h; exact h.kept k
  · rename_i e1; rw [if_neg e1] at h
    split
    · rename_i e2; rw [if_pos e2] at h; exact h.kept k
    · trivial
theorem lcorners_poly {X Y A K R : Int} {ao : Nat → Option Addr} {sn : Nat} {ac : Nat → Nat} {bd : Bdy} {P : Cs} {n : Nat} (hW : PlaceW X Y A K R ao sn ac bd) (hbd : bd = .poly P n) : K = 2 ∧ 3 ≤ n ∧ n ≤ 8 ∧ Cin P n ∧ ∀ w g0 e0, BodyAt w X Y A K R (.slice (ao g0) sn (ac e0)) bd →
    Calls Try.prog 21 #[bodyV 0 X Y 0 0 A 0 0 K R (.slice (ao g0) sn (ac e0))] w fun e w' => ∃ g, e = .returned (.slice (some ⟨g, 0, none⟩) n n) ∧ w.heap.size ≤ g ∧ g < w'.heap.size ∧ Row w' g 26 n P ∧ Made w.heap.size w w' := by
  obtain ⟨iX, iY, iA, iR⟩ := hW.i64
  rcases hW.kind with ⟨_, _, _, _, _, h⟩ | ⟨rfl, rfl, h1, h3, h8, gx, gy, gk, hg, har, rfl⟩
  · rw [hbd] at h; cases h
  · injection hbd with hP hn
    subst hn
    refine ⟨rfl, h3, h8, fun i _ => by rw [← hP]; exact ⟨i64_add _ _, i64_add _ _⟩, fun w g0 e0 hb => ?_⟩
    rw [h1]
    obtain ⟨_, _, _, _, hb⟩ := hb
    rcases hb with ⟨h, _⟩ | ⟨_, _, b, off, n, cap, f, hs, n3, n8, hp, hi, hbd'⟩
    · omega
    · rw [h1] at hs
      simp at hs
      obtain ⟨⟨rfl, rfl⟩, rfl, rfl⟩ := hs
      injection hbd' with hbd' _
      refine (lcorners_is X Y A g0 0 sn (ac e0) f w iX iY iA h3 h8 hp hi _ (hbd'.symm.trans hP)).mono ?_
      rintro e w' ⟨g, rfl, hr, hg, k⟩
      exact ⟨g, rfl, hg, hr.here, hr, k⟩

set_option maxRecDepth 100000 in
set_option maxHeartbeats 8000000 in
theorem tturned_polys (TS : TouchSays) (a b c d x y an a2 b2 c2 d2 x2 y2 an2 : Int) (w : World) (ix : I64 x) (iy : I64 y) (ix2 : I64 x2) (iy2 : I64 y2) (X Y A K R X2 Y2 A2 K2 R2 : Int) (ao ao2 : Nat → Option Addr) (sn sn2 : Nat) (ac ac2 : Nat → Nat) (bd bd2 : Bdy) (hW1 : PlaceW X Y A K R ao sn ac bd) (hW2 : PlaceW X2 Y2 A2 K2 R2 ao2 sn2 ac2 bd2)
    (hB1 : ∀ w, Calls Try.prog 10 #[placeV a b c d x y an] w fun e w' => ∃ g e', e = .returned (bodyV 0 X Y 0 0 A 0 0 K R (.slice (ao g) sn (ac e'))) ∧ w.heap.size ≤ g ∧ g < w'.heap.size ∧ BodyAt w' X Y A K R (.slice (ao g) sn (ac e')) bd ∧ Made w.heap.size w w')
    (hB2 : ∀ w, Calls Try.prog 10 #[placeV a2 b2 c2 d2 x2 y2 an2] w fun e w' => ∃ g e', e = .returned (bodyV 0 X2 Y2 0 0 A2 0 0 K2 R2 (.slice (ao2 g) sn2 (ac2 e'))) ∧ w.heap.size ≤ g ∧ g < w'.heap.size ∧ BodyAt w' X2 Y2 A2 K2 R2 (.slice (ao2 g) sn2 (ac2 e')) bd2 ∧ Made w.heap.size w w')
    (P Q : Cs) (n m : Nat) (hbd : bd = .poly P n) (hbd2 : bd2 = .poly Q m) :
    Calls Try.prog 8 #[placeV a b c d x y an, placeV a2 b2 c2 d2 x2 y2 an2] w fun e w' => e = .returned (.bool true) ∧ Made w.heap.size w w' := by
  have HB1 := hid hB1; have HB2 := hid hB2; have HW1 := hid hW1; have HW2 := hid hW2
  have HFit := hid (tfit_is TS)
  clear hB1 hB2 hW1 hW2
  obtain ⟨t, et⟩ : ∃ t, wantF bd bd2 = t := ⟨_, rfl⟩
  obtain ⟨nx, enx⟩ : ∃ z, (t.getD noTch).nx = z := ⟨_, rfl⟩
  obtain ⟨ny, eny⟩ : ∃ z, (t.getD noTch).ny = z := ⟨_, rfl⟩
  obtain ⟨l, el⟩ : ∃ z, (t.getD noTch).pts = z := ⟨_, rfl⟩
  obtain ⟨ok, eok⟩ : ∃ z, t.isSome = z := ⟨_, rfl⟩
  have hl2 : l.length ≤ 2 := by rw [← el, ← et]; exact pts_two _ _
  have HOf : Hid (OfF X Y A K R X2 Y2 A2 K2 R2 bd bd2 nx ny l ok) := of_fresh et enx eny el eok
  obtain ⟨u, eu⟩ : ∃ t, wantF bd2 bd = t := ⟨_, rfl⟩
  obtain ⟨mx, emx⟩ : ∃ z, (u.getD noTch).nx = z := ⟨_, rfl⟩
  obtain ⟨my, emy⟩ : ∃ z, (u.getD noTch).ny = z := ⟨_, rfl⟩
  obtain ⟨l2, el2⟩ : ∃ z, (u.getD noTch).pts = z := ⟨_, rfl⟩
  obtain ⟨is, eis⟩ : ∃ z, u.isSome = z := ⟨_, rfl⟩
  have HOg : Hid (OfF X2 Y2 A2 K2 R2 X Y A K R bd2 bd mx my l2 is) := of_fresh eu emx emy el2 eis
  obtain ⟨hK, n3, n8, iP, hC1⟩ := lcorners_poly HW1.out hbd
  obtain ⟨hK2, m3, m8, iQ, hC2⟩ := lcorners_poly HW2.out hbd2
  have HC1 := hid hC1; have HC2 := hid hC2
  obtain ⟨i, ei⟩ : ∃ i, sideF P n Q m = i := ⟨_, rfl⟩
  obtain ⟨r, er⟩ : ∃ g, gapF P n Q m i = g := ⟨_, rfl⟩
  obtain ⟨k, ek⟩ : ∃ i, sideF Q m P n = i := ⟨_, rfl⟩
  obtain ⟨r2, er2⟩ : ∃ g, gapF Q m P n k = g := ⟨_, rfl⟩
  have HG1 := hid (fun b b2 w hp hq => tgap_new b n b2 m P Q i r w (by omega) n8 (by omega) m8 hp hq iP iQ ei er)
  have HG2 := hid (fun b b2 w hp hq => tgap_new b m b2 n Q P k r2 w (by omega) m8 (by omega) n8 hp hq iQ iP ek er2)
  have gK : (K == K2) = true := by simp [hK, hK2]
  have gK1 : (K == 1) = false := by simp [hK]
  have hT : ((0 ≤ r ∨ 0 ≤ r2) → ok = false ∧ is = false) ∧ (¬ (0 ≤ r ∨ 0 ≤ r2) → r ≠ r2 → Turned t u) := by
    have e1 : polysF P n Q m = t := by rw [← et, hbd, hbd2]; rfl
    have e2 : polysF Q m P n = u := by rw [← eu, hbd, hbd2]; rfl
    refine ⟨fun h => ?_, fun h hne => ?_⟩
    · have := polys_far P n Q m (by rw [ei, er, ek, er2]; exact h)
      rw [e1, e2] at this
      rw [← eok, ← eis, this.1, this.2]
      exact ⟨rfl, rfl⟩
    · have := turned_pp P n Q m (by rw [ei, er, ek, er2]; exact h) (by rw [ei, er, ek, er2]; exact hne)
      rw [e1, e2] at this
      exact this
  unfold Turned at hT
  rw [eok, eis, enx, eny, el, emx, emy, el2] at hT
  have HT := hid hT
  have hI : Rg nx ∧ Rg ny := by
    have e1 : polysF P n Q m = t := by rw [← et, hbd, hbd2]; rfl
    rw [← enx, ← eny, ← e1]
    have z : Rg noTch.nx ∧ Rg noTch.ny := ⟨by unfold noTch Rg; simp only []; omega, by unfold noTch Rg; simp only []; omega⟩
    unfold polysF
    split
    · exact z
    · split
      · obtain ⟨q1, q2⟩ := rg_clip Q m P n (sideF Q m P n) (64 + 2 * (sideF Q m P n : Int))
        cases hc : clipF Q m P n (sideF Q m P n) (64 + 2 * (sideF Q m P n : Int)) with
        | none => exact z
        | some c =>
          rw [hc] at q1 q2
          have q1 : Rg c.nx := q1
          have q2 : Rg c.ny := q2
          show Rg (negF c.nx) ∧ Rg (negF c.ny)
          rw [negR q1, negR q2]
          exact ⟨Rg_neg q1, Rg_neg q2⟩
      · exact rg_clip P n Q m (sideF P n Q m) (32 + 2 * (sideF P n Q m : Int))
  have inx : I64 nx := i64_rg hI.1
  have iny : I64 ny := i64_rg hI.2
  have ir : I64 r := by rw [← er]; exact i64_rg (gap_rg _ _ _ _ _)
  have ir2 : I64 r2 := by rw [← er2]; exact i64_rg (gap_rg _ _ _ _ _)
  clear et enx eny el eok eu emx emy el2 eis TS hK hK2 hT hI hC1 hC2 iP iQ ei er ek er2 hbd hbd2
  go_enter Try.func8, Try.ntmps8
  go_wp2_with fail
  refine (HFit.out _).mono ?_
  rintro e w1 ⟨rfl, k1⟩
  have p0 := k1.reads (p := ⟨w.heap.size, 0, none⟩) (x := .int .i64 a) (by go_simp)
  have p1 := k1.reads (p := ⟨w.heap.size, 1, none⟩) (x := .int .i64 b) (by go_simp)
  have p2 := k1.reads (p := ⟨w.heap.size, 2, none⟩) (x := .int .i64 c) (by go_simp)
  have p3 := k1.reads (p := ⟨w.heap.size, 3, none⟩) (x := .int .i64 d) (by go_simp)
  have p4 := k1.reads (p := ⟨w.heap.size, 4, none⟩) (x := .int .i64 x) (by go_simp)
  have p5 := k1.reads (p := ⟨w.heap.size, 5, none⟩) (x := .int .i64 y) (by go_simp)
  have p6 := k1.reads (p := ⟨w.heap.size, 6, none⟩) (x := .int .i64 an) (by go_simp)
  have q0 := k1.reads (p := ⟨w.heap.size + 1, 0, none⟩) (x := .int .i64 a2) (by go_simp)
  have q1 := k1.reads (p := ⟨w.heap.size + 1, 1, none⟩) (x := .int .i64 b2) (by go_simp)
  have q2 := k1.reads (p := ⟨w.heap.size + 1, 2, none⟩) (x := .int .i64 c2) (by go_simp)
  have q3 := k1.reads (p := ⟨w.heap.size + 1, 3, none⟩) (x := .int .i64 d2) (by go_simp)
  have q4 := k1.reads (p := ⟨w.heap.size + 1, 4, none⟩) (x := .int .i64 x2) (by go_simp)
  have q5 := k1.reads (p := ⟨w.heap.size + 1, 5, none⟩) (x := .int .i64 y2) (by go_simp)
  have q6 := k1.reads (p := ⟨w.heap.size + 1, 6, none⟩) (x := .int .i64 an2) (by go_simp)
  have M1 : Hid (Made w.heap.size w w1) := (made_box (made_box k1))
  clear k1 HFit
  go_upto_region 3 with fail
  have mk1 : Hid (∀ (G : Nat → Option (Nat × Nat)) (u : World), MK.Cm w1 (alB (fun v g e => BodyAt v X Y A K R (.slice (ao g) sn (ac e)) bd) (fun v g e => BodyAt v X2 Y2 A2 K2 R2 (.slice (ao2 g) sn2 (ac2 e)) bd2)) G u → MK.MkUpon Try.prog w1 (alB (fun v g e => BodyAt v X Y A K R (.slice (ao g) sn (ac e)) bd) (fun v g e => BodyAt v X2 Y2 A2 K2 R2 (.slice (ao2 g) sn2 (ac2 e)) bd2)) (valB (fun g e => bodyV 0 X Y 0 0 A 0 0 K R (.slice (ao g) sn (ac e))) (fun g e => bodyV 0 X2 Y2 0 0 A2 0 0 K2 R2 (.slice (ao2 g) sn2 (ac2 e)))) 1 G (.ok (.enter 10 #[placeV a b c d x y an]) u)) := by
    intro G u hu
    refine (HB1.out u).mono ?_
    rintro e u' ⟨p, e', rfl, hp1, hp2, ho, kk⟩
    exact ⟨p, e', rfl, hu.next (alB_lasts (fun _ _ _ _ h k => h.kept k) (fun _ _ _ _ h k => h.kept k)) kk hp1 hp2 ho⟩
  have mk3 : Hid (∀ (G : Nat → Option (Nat × Nat)) (u : World), MK.Cm w1 (alB (fun v g e => BodyAt v X Y A K R (.slice (ao g) sn (ac e)) bd) (fun v g e => BodyAt v X2 Y2 A2 K2 R2 (.slice (ao2 g) sn2 (ac2 e)) bd2)) G u → MK.MkUpon Try.prog w1 (alB (fun v g e => BodyAt v X Y A K R (.slice (ao g) sn (ac e)) bd) (fun v g e => BodyAt v X2 Y2 A2 K2 R2 (.slice (ao2 g) sn2 (ac2 e)) bd2)) (valB (fun g e => bodyV 0 X Y 0 0 A 0 0 K R (.slice (ao g) sn (ac e))) (fun g e => bodyV 0 X2 Y2 0 0 A2 0 0 K2 R2 (.slice (ao2 g) sn2 (ac2 e)))) 3 G (.ok (.enter 10 #[placeV a2 b2 c2 d2 x2 y2 an2]) u)) := by
    intro G u hu
    refine (HB2.out u).mono ?_
    rintro e u' ⟨p, e', rfl, hp1, hp2, ho, kk⟩
    exact ⟨p, e', rfl, hu.next (alB_lasts (fun _ _ _ _ h k => h.kept k) (fun _ _ _ _ h k => h.kept k)) kk hp1 hp2 ho⟩
  refine MK.reg_mk (alB (fun v g e => BodyAt v X Y A K R (.slice (ao g) sn (ac e)) bd) (fun v g e => BodyAt v X2 Y2 A2 K2 R2 (.slice (ao2 g) sn2 (ac2 e)) bd2)) 6 [0, 2, 1, 3, 4, 5] [0, 2] [1, 3, 4, 5] [] (fun _ => []) (val := (valB (fun g e => bodyV 0 X Y 0 0 A 0 0 K R (.slice (ao g) sn (ac e))) (fun g e => bodyV 0 X2 Y2 0 0 A2 0 0 K2 R2 (.slice (ao2 g) sn2 (ac2 e))))) (by kernel_rfl) (by kernel_rfl) (fun p hp => absurd hp (by simp)) ?_
  refine MK.can_class (rest := [1, 3, 4, 5]) [0, 2] [] 149 (alB_lasts (fun _ _ _ _ h k => h.kept k) (fun _ _ _ _ h k => h.kept k)) (MK.any_class _) (by kernel_rfl) rfl (by kernel_rfl) (by kernel_rfl) ?_
  apply Exists.intro
  refine ⟨?q1, ?q2⟩
  case q1 =>
    intro Ty hT fw hf _
    have p0 := Class.reads hf p0
    have p1 := Class.reads hf p1
    have p2 := Class.reads hf p2
    have p3 := Class.reads hf p3
    have p4 := Class.reads hf p4
    have p5 := Class.reads hf p5
    have p6 := Class.reads hf p6
    have q0 := Class.reads hf q0
    have q1 := Class.reads hf q1
    have q2 := Class.reads hf q2
    have q3 := Class.reads hf q3
    have q4 := Class.reads hf q4
    have q5 := Class.reads hf q5
    have q6 := Class.reads hf q6
    change wpQuiet _ _ _ _ [_, _] _
    repeat (go_big_quiet_step (fail))
    exact wpQuiet_nil rfl
  refine MK.can_mk 1 19 _ rfl rfl rfl rfl ?m1 fun pA eA => ?m2
  case m1 =>
    intro G' u _ hu
    rw [show (execOp _ _).run Try.prog u = .ok (.enter 10 #[placeV a b c d x y an]) u by kernel_rfl]
    exact mk1.out G' u hu
  rw [show (valB (fun g e => bodyV 0 X Y 0 0 A 0 0 K R (.slice (ao g) sn (ac e))) (fun g e => bodyV 0 X2 Y2 0 0 A2 0 0 K2 R2 (.slice (ao2 g) sn2 (ac2 e)))) 1 pA eA = bodyV 0 X Y 0 0 A 0 0 K R (.slice (ao pA) sn (ac eA)) from rfl]
  simp only [Act.put, List.setIfInBounds_toArray, List.set_cons_succ, List.set_cons_zero]
  refine MK.can_mk 3 21 _ rfl rfl rfl rfl ?m3 fun pB eB => ?m4
  case m3 =>
    intro G' u _ hu
    rw [show (execOp _ _).run Try.prog u = .ok (.enter 10 #[placeV a2 b2 c2 d2 x2 y2 an2]) u by kernel_rfl]
    exact mk3.out G' u hu
  rw [show (valB (fun g e => bodyV 0 X Y 0 0 A 0 0 K R (.slice (ao g) sn (ac e))) (fun g e => bodyV 0 X2 Y2 0 0 A2 0 0 K2 R2 (.slice (ao2 g) sn2 (ac2 e)))) 3 pB eB = bodyV 0 X2 Y2 0 0 A2 0 0 K2 R2 (.slice (ao2 pB) sn2 (ac2 eB)) from rfl]
  simp only [Act.put, List.setIfInBounds_toArray, List.set_cons_succ, List.set_cons_zero]
  refine MK.can_mk 4 5 _ rfl rfl rfl rfl ?m5 fun gA hA => ?m6
  case m5 =>
    intro G' u _ hu
    rw [show (execOp _ _).run Try.prog u = .ok (.value (.pointer (some ⟨u.heap.size, 0, none⟩))) (u.alloc (.cells #[.int .i64 0, .int .i64 0, .int .i64 0, .int .i64 0, .int .i64 0, .int .i64 0, .int .i64 0, .int .i64 0, .int .i64 0, .int .i64 0, .slice none 0 0] 34)) by kernel_rfl]
    exact ⟨u.heap.size, 0, rfl, hu.next (alB_lasts (fun _ _ _ _ h k => h.kept k) (fun _ _ _ _ h k => h.kept k)) ((Made.rfl_ _ _).cells (Nat.le_refl _) _ _) (Nat.le_refl _) (by simp) (has_new _ _ _)⟩
  rw [show (valB (fun g e => bodyV 0 X Y 0 0 A 0 0 K R (.slice (ao g) sn (ac e))) (fun g e => bodyV 0 X2 Y2 0 0 A2 0 0 K2 R2 (.slice (ao2 g) sn2 (ac2 e)))) 4 gA hA = .pointer (some ⟨gA, 0, none⟩) from rfl]
  simp only [Act.put, List.setIfInBounds_toArray, List.set_cons_succ, List.set_cons_zero]
  refine MK.can_mk 5 6 _ rfl rfl rfl rfl ?m7 fun gB hB => ?m8
  case m7 =>
    intro G' u _ hu
    rw [show (execOp _ _).run Try.prog u = .ok (.value (.pointer (some ⟨u.heap.size, 0, none⟩))) (u.alloc (.cells #[.int .i64 0, .int .i64 0, .int .i64 0, .int .i64 0, .int .i64 0, .int .i64 0, .int .i64 0, .int .i64 0, .int .i64 0, .int .i64 0, .slice none 0 0] 34)) by kernel_rfl]
    exact ⟨u.heap.size, 0, rfl, hu.next (alB_lasts (fun _ _ _ _ h k => h.kept k) (fun _ _ _ _ h k => h.kept k)) ((Made.rfl_ _ _).cells (Nat.le_refl _) _ _) (Nat.le_refl _) (by simp) (has_new _ _ _)⟩
  rw [show (valB (fun g e => bodyV 0 X Y 0 0 A 0 0 K R (.slice (ao g) sn (ac e))) (fun g e => bodyV 0 X2 Y2 0 0 A2 0 0 K2 R2 (.slice (ao2 g) sn2 (ac2 e)))) 5 gB hB = .pointer (some ⟨gB, 0, none⟩) from rfl]
  intro w9 hu
  have u1 : (MK.upd (MK.upd (MK.upd (MK.upd (fun _ => none) 1 (pA, eA)) 3 (pB, eB)) 4 (gA, hA)) 5 (gB, hB)) 1 = some (pA, eA) := by unfold MK.upd; simp
  have u3 : (MK.upd (MK.upd (MK.upd (MK.upd (fun _ => none) 1 (pA, eA)) 3 (pB, eB)) 4 (gA, hA)) 5 (gB, hB)) 3 = some (pB, eB) := by unfold MK.upd; simp
  have u4 : (MK.upd (MK.upd (MK.upd (MK.upd (fun _ => none) 1 (pA, eA)) 3 (pB, eB)) 4 (gA, hA)) 5 (gB, hB)) 4 = some (gA, hA) := by unfold MK.upd; simp
  have u5 : (MK.upd (MK.upd (MK.upd (MK.upd (fun _ => none) 1 (pA, eA)) 3 (pB, eB)) 4 (gA, hA)) 5 (gB, hB)) 5 = some (gB, hB) := by unfold MK.upd; simp
  obtain ⟨l1, m1, b1⟩ := hu.2.1 1 _ u1
  obtain ⟨l3, m3, b3⟩ := hu.2.1 3 _ u3
  obtain ⟨l4, m4, b4⟩ := hu.2.1 4 _ u4
  obtain ⟨l5, m5, b5⟩ := hu.2.1 5 _ u5
  have b1 : BodyAt w9 X Y A K R (.slice (ao pA) sn (ac eA)) bd := b1
  have b3 : BodyAt w9 X2 Y2 A2 K2 R2 (.slice (ao2 pB) sn2 (ac2 eB)) bd2 := b3
  have zA : Has w9 gA 34 #[.int .i64 0, .int .i64 0, .int .i64 0, .int .i64 0, .int .i64 0, .int .i64 0, .int .i64 0, .int .i64 0, .int .i64 0, .int .i64 0, .slice none 0 0] := b4
  have zB : Has w9 gB 34 #[.int .i64 0, .int .i64 0, .int .i64 0, .int .i64 0, .int .i64 0, .int .i64 0, .int .i64 0, .int .i64 0, .int .i64 0, .int .i64 0, .slice none 0 0] := b5
  have n14 : pA ≠ gA := fun e => by have := hu.2.2 1 4 _ _ u1 u4 e; omega
  have n15 : pA ≠ gB := fun e => by have := hu.2.2 1 5 _ _ u1 u5 e; omega
  have n34 : pB ≠ gA := fun e => by have := hu.2.2 3 4 _ _ u3 u4 e; omega
  have n35 : pB ≠ gB := fun e => by have := hu.2.2 3 5 _ _ u3 u5 e; omega
  have n45 : gA ≠ gB := fun e => by have := hu.2.2 4 5 _ _ u4 u5 e; omega
  have k9 := hu.1
  simp only [] at l1 l3 l4 l5
  have lw1 : w.heap.size ≤ w1.heap.size := M1.out.1.size
  have lwA : w.heap.size ≤ gA := by omega
  have lwB : w.heap.size ≤ gB := by omega
  have M9 : Hid (Made w.heap.size w w9) := M1.out.then_ (k9.low M1.out.1.size)
  clear k9 mk1 mk3 hu u1 u3 u4 u5 b4 b5 p0 p1 p2 p3 p4 p5 p6 q0 q1 q2 q3 q4 q5 q6 M1
  have za0 := zA.at_ 0
  have za1 := zA.at_ 1
  have za2 := zA.at_ 2
  have za3 := zA.at_ 3
  have za4 := zA.at_ 4
  have za5 := zA.at_ 5
  have za6 := zA.at_ 6
  have za7 := zA.at_ 7
  have za8 := zA.at_ 8
  have za9 := zA.at_ 9
  have za10 := zA.at_ 10
  have zb0 := zB.at_ 0
  have zb1 := zB.at_ 1
  have zb2 := zB.at_ 2
  have zb3 := zB.at_ 3
  have zb4 := zB.at_ 4
  have zb5 := zB.at_ 5
  have zb6 := zB.at_ 6
  have zb7 := zB.at_ 7
  have zb8 := zB.at_ 8
  have zb9 := zB.at_ 9
  have zb10 := zB.at_ 10
  simp at za0 zb0 za1 zb1 za2 zb2 za3 zb3 za4 zb4 za5 zb5 za6 zb6 za7 zb7 za8 zb8 za9 zb9 za10 zb10
  have zfA : ∀ i, w9.frozen? ⟨gA, i, none⟩ = false := fun i => zA.free i
  have zfB : ∀ i, w9.frozen? ⟨gB, i, none⟩ = false := fun i => zB.free i
  have n54 : gB ≠ gA := fun e => n45 e.symm
  simp only [List.drop_succ_cons, List.drop_zero]
  go_upto_region 4 with fail
  obtain ⟨We, eW⟩ : ∃ W, W = ((((((((((((((((((((((w9.setCell ⟨gA, 0, none⟩ (.int .i64 0)).setCell ⟨gA, 1, none⟩ (.int .i64 X)).setCell ⟨gA, 2, none⟩ (.int .i64 Y)).setCell ⟨gA, 3, none⟩ (.int .i64 0)).setCell ⟨gA, 4, none⟩ (.int .i64 0)).setCell ⟨gA, 5, none⟩ (.int .i64 A)).setCell ⟨gA, 6, none⟩ (.int .i64 0)).setCell ⟨gA, 7, none⟩ (.int .i64 0)).setCell ⟨gA, 8, none⟩ (.int .i64 K)).setCell ⟨gA, 9, none⟩ (.int .i64 R)).setCell ⟨gA, 10, none⟩ (.slice (ao pA) sn (ac eA))).setCell ⟨gB, 0, none⟩ (.int .i64 0)).setCell ⟨gB, 1, none⟩ (.int .i64 X2)).setCell ⟨gB, 2, none⟩ (.int .i64 Y2)).setCell ⟨gB, 3, none⟩ (.int .i64 0)).setCell ⟨gB, 4, none⟩ (.int .i64 0)).setCell ⟨gB, 5, none⟩ (.int .i64 A2)).setCell ⟨gB, 6, none⟩ (.int .i64 0)).setCell ⟨gB, 7, none⟩ (.int .i64 0)).setCell ⟨gB, 8, none⟩ (.int .i64 K2)).setCell ⟨gB, 9, none⟩ (.int .i64 R2)).setCell ⟨gB, 10, none⟩ (.slice (ao2 pB) sn2 (ac2 eB))) := ⟨_, rfl⟩
  have HA : Has We gA 34 #[.int .i64 0, .int .i64 X, .int .i64 Y, .int .i64 0, .int .i64 0, .int .i64 A, .int .i64 0, .int .i64 0, .int .i64 K, .int .i64 R, .slice (ao pA) sn (ac eA)] := by rw [eW]; exact has_put11 (zA.put11 _ _ _ _ _ _ _ _ _ _ _) n45 _ _ _ _ _ _ _ _ _ _ _
  have HB : Has We gB 34 #[.int .i64 0, .int .i64 X2, .int .i64 Y2, .int .i64 0, .int .i64 0, .int .i64 A2, .int .i64 0, .int .i64 0, .int .i64 K2, .int .i64 R2, .slice (ao2 pB) sn2 (ac2 eB)] := by rw [eW]; exact (has_put11 zB n54 _ _ _ _ _ _ _ _ _ _ _).put11 _ _ _ _ _ _ _ _ _ _ _
  have Me : Hid (Made w.heap.size w We) := by unfold Hid; rw [eW]; exact (M9.out.put11 lwA _ _ _ _ _ _ _ _ _ _ _).put11 lwB _ _ _ _ _ _ _ _ _ _ _
  have HBa : Hid (BodyAt We X Y A K R (.slice (ao pA) sn (ac eA)) bd) := b1.away (HW1.out.ao_ pA) (fun i => by rw [eW, cell_put11 _ _ _ _ n15, cell_put11 _ _ _ _ n14])
  have HBb : Hid (BodyAt We X2 Y2 A2 K2 R2 (.slice (ao2 pB) sn2 (ac2 eB)) bd2) := b3.away (HW2.out.ao_ pB) (fun i => by rw [eW, cell_put11 _ _ _ _ n35, cell_put11 _ _ _ _ n34])
  rw [← eW]
  clear eW zA zB za0 zb0 za1 zb1 za2 zb2 za3 zb3 za4 zb4 za5 zb5 za6 zb6 za7 zb7 za8 zb8 za9 zb9 za10 zb10 zfA zfB b1 b3 M9
  refine NoPanic.normal ?_
  have c0 := HA.at_ 0
  have c1 := HA.at_ 1
  have c2 := HA.at_ 2
  have c3 := HA.at_ 3
  have c4 := HA.at_ 4
  have c5 := HA.at_ 5
  have c6 := HA.at_ 6
  have c7 := HA.at_ 7
  have c8 := HA.at_ 8
  have c9 := HA.at_ 9
  have c10 := HA.at_ 10
  have d0 := HB.at_ 0
  have d1 := HB.at_ 1
  have d2 := HB.at_ 2
  have d3 := HB.at_ 3
  have d4 := HB.at_ 4
  have d5 := HB.at_ 5
  have d6 := HB.at_ 6
  have d7 := HB.at_ 7
  have d8 := HB.at_ 8
  have d9 := HB.at_ 9
  have d10 := HB.at_ 10
  simp at c0 d0 c1 d1 c2 d2 c3 d3 c4 d4 c5 d5 c6 d6 c7 d7 c8 d8 c9 d9 c10 d10
  have lgA := HA.here
  have lgB := HB.here
  have HHA := hid HA; have HHB := hid HB
  clear HA HB
  go_wp2_with fail
  refine (HOf.out _ _ _ HBa.out HBb.out).mono ?_
  rintro e w10 ⟨po, cp, rfl, hpt, hfr, kf⟩
  have c0 := kf.reads (c0)
  have c1 := kf.reads (c1)
  have c2 := kf.reads (c2)
  have c3 := kf.reads (c3)
  have c4 := kf.reads (c4)
  have c5 := kf.reads (c5)
  have c6 := kf.reads (c6)
  have c7 := kf.reads (c7)
  have c8 := kf.reads (c8)
  have c9 := kf.reads (c9)
  have c10 := kf.reads (c10)
  have d0 := kf.reads (d0)
  have d1 := kf.reads (d1)
  have d2 := kf.reads (d2)
  have d3 := kf.reads (d3)
  have d4 := kf.reads (d4)
  have d5 := kf.reads (d5)
  have d6 := kf.reads (d6)
  have d7 := kf.reads (d7)
  have d8 := kf.reads (d8)
  have d9 := kf.reads (d9)
  have d10 := kf.reads (d10)
  have HPt := hid hpt
  have HNb : Hid (0 < l.length → ∀ g off, po = some ⟨g, off, none⟩ → g ≠ w10.heap.size) := fun hl g off e => Nat.ne_of_lt (hpt.low hl g off e)
  have HBa : Hid (BodyAt w10 X Y A K R (.slice (ao pA) sn (ac eA)) bd) := HBa.out.kept kf
  have HBb : Hid (BodyAt w10 X2 Y2 A2 K2 R2 (.slice (ao2 pB) sn2 (ac2 eB)) bd2) := HBb.out.kept kf
  have Mw10 : Hid (Made w.heap.size w w10) := Me.out.then_ (kf.low Me.out.1.size)
  have lgA : gA < w10.heap.size := World.block_lt_of_cell? _ _ c0
  have lgB : gB < w10.heap.size := World.block_lt_of_cell? _ _ d0
  clear kf hpt hfr
  go_wp2_with fail
  refine (HOg.out _ _ _ (HBb.out.kept ((Made.rfl_ _ _).cells (Nat.le_refl _) _ _)) (HBa.out.kept ((Made.rfl_ _ _).cells (Nat.le_refl _) _ _))).mono ?_
  rintro e w11 ⟨po2, cp2, rfl, hpt, hfr, kf⟩
  have t0 := kf.reads (p := ⟨w10.heap.size, 0, none⟩) (x := .int .i64 nx) (by go_simp)
  have t1 := kf.reads (p := ⟨w10.heap.size, 1, none⟩) (x := .int .i64 ny) (by go_simp)
  have t2 := kf.reads (p := ⟨w10.heap.size, 2, none⟩) (x := .slice po l.length cp) (by go_simp)
  have tf : ∀ i, w11.frozen? ⟨w10.heap.size, i, none⟩ = false := fun i => (kf.2 _).trans (by go_simp)
  have c0 := kf.reads (cell_more c0)
  have c1 := kf.reads (cell_more c1)
  have c2 := kf.reads (cell_more c2)
  have c3 := kf.reads (cell_more c3)
  have c4 := kf.reads (cell_more c4)
  have c5 := kf.reads (cell_more c5)
  have c6 := kf.reads (cell_more c6)
  have c7 := kf.reads (cell_more c7)
  have c8 := kf.reads (cell_more c8)
  have c9 := kf.reads (cell_more c9)
  have c10 := kf.reads (cell_more c10)
  have d0 := kf.reads (cell_more d0)
  have d1 := kf.reads (cell_more d1)
  have d2 := kf.reads (cell_more d2)
  have d3 := kf.reads (cell_more d3)
  have d4 := kf.reads (cell_more d4)
  have d5 := kf.reads (cell_more d5)
  have d6 := kf.reads (cell_more d6)
  have d7 := kf.reads (cell_more d7)
  have d8 := kf.reads (cell_more d8)
  have d9 := kf.reads (cell_more d9)
  have d10 := kf.reads (cell_more d10)
  have HPt1 : Hid (PtsT w11 po l) := (HPt.out.kept ((Made.rfl_ _ _).cells (Nat.le_refl _) _ _)).kept kf
  have HPt2 := hid hpt
  have HNb2 : Hid (0 < l2.length → ∀ g off, po2 = some ⟨g, off, none⟩ → g ≠ w10.heap.size) := fun hl g off e => by
    have := hfr g off e
    simp at this
    omega
  have HBa : Hid (BodyAt w11 X Y A K R (.slice (ao pA) sn (ac eA)) bd) := (HBa.out.kept ((Made.rfl_ _ _).cells (Nat.le_refl _) _ _)).kept kf
  have HBb : Hid (BodyAt w11 X2 Y2 A2 K2 R2 (.slice (ao2 pB) sn2 (ac2 eB)) bd2) := (HBb.out.kept ((Made.rfl_ _ _).cells (Nat.le_refl _) _ _)).kept kf
  have M11 : Hid (Made w.heap.size w w11) := Mw10.out.then_ ((made_box kf).low Mw10.out.1.size)
  have lt11 : w10.heap.size < w11.heap.size := World.block_lt_of_cell? _ _ t0
  have lgA : gA < w11.heap.size := World.block_lt_of_cell? _ _ c0
  have lgB : gB < w11.heap.size := World.block_lt_of_cell? _ _ d0
  have lww : w.heap.size ≤ w10.heap.size := Mw10.out.1.size
  clear kf hpt hfr
  go_upto_region 11 with fail
  obtain ⟨wu, eW⟩ : ∃ W, W = w11.alloc (.cells #[.int .i64 mx, .int .i64 my, .slice po2 l2.length cp2] 38) := ⟨_, rfl⟩
  have kk : Made w11.heap.size w11 wu := by rw [eW]; exact (Made.rfl_ _ _).cells (Nat.le_refl _) _ _
  have s0 : wu.cell? ⟨w11.heap.size, 0, none⟩ = some (.int .i64 mx) := by rw [eW]; go_simp
  have s1 : wu.cell? ⟨w11.heap.size, 1, none⟩ = some (.int .i64 my) := by rw [eW]; go_simp
  have s2 : wu.cell? ⟨w11.heap.size, 2, none⟩ = some (.slice po2 l2.length cp2) := by rw [eW]; go_simp
  have c0 := kk.reads (c0)
  have c1 := kk.reads (c1)
  have c2 := kk.reads (c2)
  have c3 := kk.reads (c3)
  have c4 := kk.reads (c4)
  have c5 := kk.reads (c5)
  have c6 := kk.reads (c6)
  have c7 := kk.reads (c7)
  have c8 := kk.reads (c8)
  have c9 := kk.reads (c9)
  have c10 := kk.reads (c10)
  have d0 := kk.reads (d0)
  have d1 := kk.reads (d1)
  have d2 := kk.reads (d2)
  have d3 := kk.reads (d3)
  have d4 := kk.reads (d4)
  have d5 := kk.reads (d5)
  have d6 := kk.reads (d6)
  have d7 := kk.reads (d7)
  have d8 := kk.reads (d8)
  have d9 := kk.reads (d9)
  have d10 := kk.reads (d10)
  have t0 := kk.reads (t0)
  have t1 := kk.reads (t1)
  have t2 := kk.reads (t2)
  have tf : ∀ i, wu.frozen? ⟨w10.heap.size, i, none⟩ = false := fun i => (kk.2 _).trans (tf i)
  have HPt1 : Hid (PtsT wu po l) := HPt1.out.kept kk
  have HPt2 : Hid (PtsT wu po2 l2) := HPt2.out.kept kk
  have HBa : Hid (BodyAt wu X Y A K R (.slice (ao pA) sn (ac eA)) bd) := HBa.out.kept kk
  have HBb : Hid (BodyAt wu X2 Y2 A2 K2 R2 (.slice (ao2 pB) sn2 (ac2 eB)) bd2) := HBb.out.kept kk
  have Mu : Hid (Made w.heap.size w wu) := M11.out.then_ (kk.low M11.out.1.size)
  have ls11 : w11.heap.size < wu.heap.size := World.block_lt_of_cell? _ _ s0
  rw [← eW]
  clear eW kk
  go_upto_region 11 with fail
  have mk1 : Hid (∀ (G : Nat → Option (Nat × Nat)) (u : World), MK.Cm wu (alG n P m Q) G u → MK.MkUpon Try.prog wu (alG n P m Q) (valG n m i r) 1 G (.ok (.enter 21 #[bodyV 0 X Y 0 0 A 0 0 K R (.slice (ao pA) sn (ac eA))]) u)) := by
    intro G u hu
    have hb : BodyAt u X Y A K R (.slice (ao pA) sn (ac eA)) bd := HBa.out.kept hu.1
    refine (HC1.out u _ _ hb).mono ?_
    rintro e u' ⟨g, rfl, hg1, hg2, hr, kk⟩
    exact ⟨g, 0, rfl, hu.next (alG_lasts _ _ _ _) kk hg1 hg2 hr⟩
  have mk3 : Hid (∀ (G : Nat → Option (Nat × Nat)) (u : World), MK.Cm wu (alG n P m Q) G u → MK.MkUpon Try.prog wu (alG n P m Q) (valG n m i r) 3 G (.ok (.enter 21 #[bodyV 0 X2 Y2 0 0 A2 0 0 K2 R2 (.slice (ao2 pB) sn2 (ac2 eB))]) u)) := by
    intro G u hu
    have hb : BodyAt u X2 Y2 A2 K2 R2 (.slice (ao2 pB) sn2 (ac2 eB)) bd2 := HBb.out.kept hu.1
    refine (HC2.out u _ _ hb).mono ?_
    rintro e u' ⟨g, rfl, hg1, hg2, hr, kk⟩
    exact ⟨g, 0, rfl, hu.next (alG_lasts _ _ _ _) kk hg1 hg2 hr⟩
  have mk4 : Hid (∀ (gP hP gQ hQ : Nat) (G : Nat → Option (Nat × Nat)) (u : World), G 1 = some (gP, hP) → G 3 = some (gQ, hQ) → MK.Cm wu (alG n P m Q) G u → MK.MkUpon Try.prog wu (alG n P m Q) (valG n m i r) 4 G (.ok (.enter 23 #[.slice (some ⟨gP, 0, none⟩) n n, .slice (some ⟨gQ, 0, none⟩) m m]) u)) := by
    intro gP hP gQ hQ G u e1 e3 hu
    have h1 : Row u gP 26 n P := (hu.2.1 1 _ e1).2.2
    have h3 : Row u gQ 26 m Q := (hu.2.1 3 _ e3).2.2
    refine (HG1.out gP gQ u h1.pts h3.pts).mono ?_
    rintro e u' ⟨rfl, hs, kk⟩
    exact ⟨u.heap.size, 0, rfl, hu.next (alG_lasts _ _ _ _) kk (Nat.le_refl _) hs trivial⟩
  refine MK.reg_mk (alG n P m Q) 8 [0, 2, 1, 3, 4, 5, 6, 7] [0, 2, 5, 6, 7] [1, 3, 4] [7] (fun i => if i = 4 then [1, 3] else []) (val := (valG n m i r)) (by kernel_rfl) (by kernel_rfl) ?hpu11 ?_
  case hpu11 => intro p hp o ho; simp at hp; subst hp; cases ho; exact extract_pure rfl
  refine MK.can_class (rest := [1, 3, 4, 5, 6, 7]) [0, 2] [] 149 (alG_lasts _ _ _ _) (MK.any_class _) (by kernel_rfl) rfl (by kernel_rfl) (by kernel_rfl) ?_
  apply Exists.intro
  refine ⟨?qa11, ?qb11⟩
  case qa11 =>
    intro Ty hT fw hf _
    have c0 := Class.reads hf c0
    have c1 := Class.reads hf c1
    have c2 := Class.reads hf c2
    have c3 := Class.reads hf c3
    have c4 := Class.reads hf c4
    have c5 := Class.reads hf c5
    have c6 := Class.reads hf c6
    have c7 := Class.reads hf c7
    have c8 := Class.reads hf c8
    have c9 := Class.reads hf c9
    have c10 := Class.reads hf c10
    have d0 := Class.reads hf d0
    have d1 := Class.reads hf d1
    have d2 := Class.reads hf d2
    have d3 := Class.reads hf d3
    have d4 := Class.reads hf d4
    have d5 := Class.reads hf d5
    have d6 := Class.reads hf d6
    have d7 := Class.reads hf d7
    have d8 := Class.reads hf d8
    have d9 := Class.reads hf d9
    have d10 := Class.reads hf d10
    change wpQuiet _ _ _ _ [_, _] _
    repeat (go_big_quiet_step (fail))
    exact wpQuiet_nil rfl
  refine MK.can_mk 1 62 _ rfl rfl rfl rfl ?m111 fun gP hP => ?n111
  case m111 =>
    intro G' u ha hu
    rw [show (execOp _ _).run Try.prog u = .ok (.enter 21 #[bodyV 0 X Y 0 0 A 0 0 K R (.slice (ao pA) sn (ac eA))]) u by kernel_rfl]
    exact mk1.out G' u hu
  rw [show (valG n m i r) 1 gP hP = .slice (some ⟨gP, 0, none⟩) n n from rfl]
  simp only [Act.put, List.setIfInBounds_toArray, List.set_cons_succ, List.set_cons_zero]
  refine MK.can_mk 3 64 _ rfl rfl rfl rfl ?m311 fun gQ hQ => ?n311
  case m311 =>
    intro G' u ha hu
    rw [show (execOp _ _).run Try.prog u = .ok (.enter 21 #[bodyV 0 X2 Y2 0 0 A2 0 0 K2 R2 (.slice (ao2 pB) sn2 (ac2 eB))]) u by kernel_rfl]
    exact mk3.out G' u hu
  rw [show (valG n m i r) 3 gQ hQ = .slice (some ⟨gQ, 0, none⟩) m m from rfl]
  simp only [Act.put, List.setIfInBounds_toArray, List.set_cons_succ, List.set_cons_zero]
  refine MK.can_mk 4 65 _ rfl rfl rfl rfl ?m411 fun gG hG => ?n411
  case m411 =>
    intro G' u ha hu
    rw [show (execOp _ _).run Try.prog u = .ok (.enter 23 #[.slice (some ⟨gP, 0, none⟩) n n, .slice (some ⟨gQ, 0, none⟩) m m]) u by kernel_rfl]
    have e1 : G' 1 = some (gP, hP) := (ha 1 (by simp)).trans (by unfold MK.upd; simp)
    have e3 : G' 3 = some (gQ, hQ) := (ha 3 (by simp)).trans (by unfold MK.upd; simp)
    exact mk4.out gP hP gQ hQ G' u e1 e3 hu
  rw [show (valG n m i r) 4 gG hG = .tuple #[.int .i64 i, .int .i64 r] from rfl]
  simp only [Act.put, List.setIfInBounds_toArray, List.set_cons_succ, List.set_cons_zero]
  refine MK.can_class (rest := []) [5, 6, 7] [] 149 (alG_lasts _ _ _ _) (MK.any_class _) (by kernel_rfl) rfl (by kernel_rfl) (by kernel_rfl) ?_
  apply Exists.intro
  refine ⟨?qc11, ?qd11⟩
  case qc11 =>
    intro Ty hT fw hf _
    change wpQuiet _ _ _ _ [_, _, _] _
    repeat (go_big_quiet_step (fail))
    exact wpQuiet_nil rfl
  intro wv hu
  have kk := hu.1
  have c0 := kk.reads c0
  have c1 := kk.reads c1
  have c2 := kk.reads c2
  have c3 := kk.reads c3
  have c4 := kk.reads c4
  have c5 := kk.reads c5
  have c6 := kk.reads c6
  have c7 := kk.reads c7
  have c8 := kk.reads c8
  have c9 := kk.reads c9
  have c10 := kk.reads c10
  have d0 := kk.reads d0
  have d1 := kk.reads d1
  have d2 := kk.reads d2
  have d3 := kk.reads d3
  have d4 := kk.reads d4
  have d5 := kk.reads d5
  have d6 := kk.reads d6
  have d7 := kk.reads d7
  have d8 := kk.reads d8
  have d9 := kk.reads d9
  have d10 := kk.reads d10
  have t0 := kk.reads t0
  have t1 := kk.reads t1
  have t2 := kk.reads t2
  have s0 := kk.reads s0
  have s1 := kk.reads s1
  have s2 := kk.reads s2
  have tf : ∀ i, wv.frozen? ⟨w10.heap.size, i, none⟩ = false := fun i => (kk.2 _).trans (tf i)
  have HPt1 : Hid (PtsT wv po l) := HPt1.out.kept kk
  have HPt2 : Hid (PtsT wv po2 l2) := HPt2.out.kept kk
  have HBa : Hid (BodyAt wv X Y A K R (.slice (ao pA) sn (ac eA)) bd) := HBa.out.kept kk
  have HBb : Hid (BodyAt wv X2 Y2 A2 K2 R2 (.slice (ao2 pB) sn2 (ac2 eB)) bd2) := HBb.out.kept kk
  have Mv : Hid (Made w.heap.size w wv) := Mu.out.then_ (kk.low Mu.out.1.size)
  clear kk hu mk1 mk3 mk4
  simp only [List.drop_succ_cons, List.drop_zero]
  go_upto_region 12 with fail
  refine NoPanic.normal ?_
  go_upto_region 12 with fail
  have mk1 : Hid (∀ (G : Nat → Option (Nat × Nat)) (u : World), MK.Cm wv (alG m Q n P) G u → MK.MkUpon Try.prog wv (alG m Q n P) (valG m n k r2) 1 G (.ok (.enter 21 #[bodyV 0 X2 Y2 0 0 A2 0 0 K2 R2 (.slice (ao2 pB) sn2 (ac2 eB))]) u)) := by
    intro G u hu
    have hb : BodyAt u X2 Y2 A2 K2 R2 (.slice (ao2 pB) sn2 (ac2 eB)) bd2 := HBb.out.kept hu.1
    refine (HC2.out u _ _ hb).mono ?_
    rintro e u' ⟨g, rfl, hg1, hg2, hr, kk⟩
    exact ⟨g, 0, rfl, hu.next (alG_lasts _ _ _ _) kk hg1 hg2 hr⟩
  have mk3 : Hid (∀ (G : Nat → Option (Nat × Nat)) (u : World), MK.Cm wv (alG m Q n P) G u → MK.MkUpon Try.prog wv (alG m Q n P) (valG m n k r2) 3 G (.ok (.enter 21 #[bodyV 0 X Y 0 0 A 0 0 K R (.slice (ao pA) sn (ac eA))]) u)) := by
    intro G u hu
    have hb : BodyAt u X Y A K R (.slice (ao pA) sn (ac eA)) bd := HBa.out.kept hu.1
    refine (HC1.out u _ _ hb).mono ?_
    rintro e u' ⟨g, rfl, hg1, hg2, hr, kk⟩
    exact ⟨g, 0, rfl, hu.next (alG_lasts _ _ _ _) kk hg1 hg2 hr⟩
  have mk4 : Hid (∀ (gP hP gQ hQ : Nat) (G : Nat → Option (Nat × Nat)) (u : World), G 1 = some (gP, hP) → G 3 = some (gQ, hQ) → MK.Cm wv (alG m Q n P) G u → MK.MkUpon Try.prog wv (alG m Q n P) (valG m n k r2) 4 G (.ok (.enter 23 #[.slice (some ⟨gP, 0, none⟩) m m, .slice (some ⟨gQ, 0, none⟩) n n]) u)) := by
    intro gP hP gQ hQ G u e1 e3 hu
    have h1 : Row u gP 26 m Q := (hu.2.1 1 _ e1).2.2
    have h3 : Row u gQ 26 n P := (hu.2.1 3 _ e3).2.2
    refine (HG2.out gP gQ u h1.pts h3.pts).mono ?_
    rintro e u' ⟨rfl, hs, kk⟩
    exact ⟨u.heap.size, 0, rfl, hu.next (alG_lasts _ _ _ _) kk (Nat.le_refl _) hs trivial⟩
  refine MK.reg_mk (alG m Q n P) 8 [0, 2, 1, 3, 4, 5, 6, 7] [0, 2, 5, 6, 7] [1, 3, 4] [7] (fun i => if i = 4 then [1, 3] else []) (val := (valG m n k r2)) (by kernel_rfl) (by kernel_rfl) ?hpu12 ?_
  case hpu12 => intro p hp o ho; simp at hp; subst hp; cases ho; exact extract_pure rfl
  refine MK.can_class (rest := [1, 3, 4, 5, 6, 7]) [0, 2] [] 149 (alG_lasts _ _ _ _) (MK.any_class _) (by kernel_rfl) rfl (by kernel_rfl) (by kernel_rfl) ?_
  apply Exists.intro
  refine ⟨?qa12, ?qb12⟩
  case qa12 =>
    intro Ty hT fw hf _
    have c0 := Class.reads hf c0
    have c1 := Class.reads hf c1
    have c2 := Class.reads hf c2
    have c3 := Class.reads hf c3
    have c4 := Class.reads hf c4
    have c5 := Class.reads hf c5
    have c6 := Class.reads hf c6
    have c7 := Class.reads hf c7
    have c8 := Class.reads hf c8
    have c9 := Class.reads hf c9
    have c10 := Class.reads hf c10
    have d0 := Class.reads hf d0
    have d1 := Class.reads hf d1
    have d2 := Class.reads hf d2
    have d3 := Class.reads hf d3
    have d4 := Class.reads hf d4
    have d5 := Class.reads hf d5
    have d6 := Class.reads hf d6
    have d7 := Class.reads hf d7
    have d8 := Class.reads hf d8
    have d9 := Class.reads hf d9
    have d10 := Class.reads hf d10
    change wpQuiet _ _ _ _ [_, _] _
    repeat (go_big_quiet_step (fail))
    exact wpQuiet_nil rfl
  refine MK.can_mk 1 70 _ rfl rfl rfl rfl ?m112 fun gP hP => ?n112
  case m112 =>
    intro G' u ha hu
    rw [show (execOp _ _).run Try.prog u = .ok (.enter 21 #[bodyV 0 X2 Y2 0 0 A2 0 0 K2 R2 (.slice (ao2 pB) sn2 (ac2 eB))]) u by kernel_rfl]
    exact mk1.out G' u hu
  rw [show (valG m n k r2) 1 gP hP = .slice (some ⟨gP, 0, none⟩) m m from rfl]
  simp only [Act.put, List.setIfInBounds_toArray, List.set_cons_succ, List.set_cons_zero]
  refine MK.can_mk 3 72 _ rfl rfl rfl rfl ?m312 fun gQ hQ => ?n312
  case m312 =>
    intro G' u ha hu
    rw [show (execOp _ _).run Try.prog u = .ok (.enter 21 #[bodyV 0 X Y 0 0 A 0 0 K R (.slice (ao pA) sn (ac eA))]) u by kernel_rfl]
    exact mk3.out G' u hu
  rw [show (valG m n k r2) 3 gQ hQ = .slice (some ⟨gQ, 0, none⟩) n n from rfl]
  simp only [Act.put, List.setIfInBounds_toArray, List.set_cons_succ, List.set_cons_zero]
  refine MK.can_mk 4 73 _ rfl rfl rfl rfl ?m412 fun gG hG => ?n412
  case m412 =>
    intro G' u ha hu
    rw [show (execOp _ _).run Try.prog u = .ok (.enter 23 #[.slice (some ⟨gP, 0, none⟩) m m, .slice (some ⟨gQ, 0, none⟩) n n]) u by kernel_rfl]
    have e1 : G' 1 = some (gP, hP) := (ha 1 (by simp)).trans (by unfold MK.upd; simp)
    have e3 : G' 3 = some (gQ, hQ) := (ha 3 (by simp)).trans (by unfold MK.upd; simp)
    exact mk4.out gP hP gQ hQ G' u e1 e3 hu
  rw [show (valG m n k r2) 4 gG hG = .tuple #[.int .i64 k, .int .i64 r2] from rfl]
  simp only [Act.put, List.setIfInBounds_toArray, List.set_cons_succ, List.set_cons_zero]
  refine MK.can_class (rest := []) [5, 6, 7] [] 149 (alG_lasts _ _ _ _) (MK.any_class _) (by kernel_rfl) rfl (by kernel_rfl) (by kernel_rfl) ?_
  apply Exists.intro
  refine ⟨?qc12, ?qd12⟩
  case qc12 =>
    intro Ty hT fw hf _
    change wpQuiet _ _ _ _ [_, _, _] _
    repeat (go_big_quiet_step (fail))
    exact wpQuiet_nil rfl
  intro wx hu
  have kk := hu.1
  have t0 := kk.reads t0
  have t1 := kk.reads t1
  have t2 := kk.reads t2
  have s0 := kk.reads s0
  have s1 := kk.reads s1
  have s2 := kk.reads s2
  have tf : ∀ i, wx.frozen? ⟨w10.heap.size, i, none⟩ = false := fun i => (kk.2 _).trans (tf i)
  have HPt1 : Hid (PtsT wx po l) := HPt1.out.kept kk
  have HPt2 : Hid (PtsT wx po2 l2) := HPt2.out.kept kk
  have HBa : Hid (BodyAt wx X Y A K R (.slice (ao pA) sn (ac eA)) bd) := HBa.out.kept kk
  have HBb : Hid (BodyAt wx X2 Y2 A2 K2 R2 (.slice (ao2 pB) sn2 (ac2 eB)) bd2) := HBb.out.kept kk
  have Mx : Hid (Made w.heap.size w wx) := Mv.out.then_ (kk.low Mv.out.1.size)
  clear kk hu mk1 mk3 mk4
  simp only [List.drop_succ_cons, List.drop_zero]
  clear c0 c1 c2 c3 c4 c5 c6 c7 c8 c9 c10 d0 d1 d2 d3 d4 d5 d6 d7 d8 d9 d10
  go_upto_region 13 with fail
  refine NoPanic.normal ?_
  have lt13 : w10.heap.size < wx.heap.size := World.block_lt_of_cell? _ _ t0
  have ls13 : w11.heap.size < wx.heap.size := World.block_lt_of_cell? _ _ s0
  by_cases hfar : 0 ≤ r ∨ 0 ≤ r2
  · obtain ⟨h1, h2⟩ := HT.out.1 hfar
    subst h1
    subst h2
    by_cases hr : 0 ≤ r
    · go_wp2_with fail
      go_ret
      exact ⟨rfl, Mx.out⟩
    · have hr2 : 0 ≤ r2 := hfar.resolve_left hr
      go_wp2_with fail
      go_ret
      exact ⟨rfl, Mx.out⟩
  have hr : ¬ 0 ≤ r := fun h => hfar (.inl h)
  have hr2 : ¬ 0 ≤ r2 := fun h => hfar (.inr h)
  by_cases hne : r = r2
  · have gq : (r == r2) = true := by simp [hne]
    clear hne
    go_wp2_with fail
    go_ret
    exact ⟨rfl, Mx.out⟩
  obtain ⟨e1, e2, e3, e4, e5⟩ := HT.out.2 hfar hne
  have gq : (r == r2) = false := by simpa using hne
  subst e1
  have EMX : Hid (negF nx = mx) := e2.symm
  have EMY : Hid (negF ny = my) := e3.symm
  have E5 := hid e5
  have E4 := hid e4
  clear e2 e3 e5 hne hfar HT HG1 HG2 HC1 HC2 HBa HBb
  rw [e4] at s2
  clear e4
  go_wp2_with fail
  refine (vneg_is _ _ _ _ _ inx iny EMX.out EMY.out).mono ?_
  rintro e wy ⟨rfl, kf⟩
  have t0 := kf.reads (t0)
  have t1 := kf.reads (t1)
  have t2 := kf.reads (t2)
  have s0 := kf.reads (s0)
  have s1 := kf.reads (s1)
  have s2 := kf.reads (s2)
  have tf : ∀ i, wy.frozen? ⟨w10.heap.size, i, none⟩ = false := fun i => (kf.2 _).trans (tf i)
  have HPt1 : Hid (PtsT wy po l) := HPt1.out.kept kf
  have HPt2 : Hid (PtsT wy po2 l2) := HPt2.out.kept kf
  have My : Hid (Made w.heap.size w wy) := Mx.out.then_ (kf.low Mx.out.1.size)
  have lt14 : w10.heap.size < wy.heap.size := World.block_lt_of_cell? _ _ t0
  have ls14 : w11.heap.size < wy.heap.size := World.block_lt_of_cell? _ _ s0
  clear kf
  go_upto_region 18 with fail
  obtain ⟨Wn, eW⟩ : ∃ W, W = (wy.setCell ⟨w10.heap.size, 0, none⟩ (.int .i64 mx)).setCell ⟨w10.heap.size, 1, none⟩ (.int .i64 my) := ⟨_, rfl⟩
  have t0 : Wn.cell? ⟨w10.heap.size, 0, none⟩ = some (.int .i64 mx) := by rw [eW]; go_simp
  have t1 : Wn.cell? ⟨w10.heap.size, 1, none⟩ = some (.int .i64 my) := by rw [eW]; go_simp
  have t2 : Wn.cell? ⟨w10.heap.size, 2, none⟩ = some (.slice po l.length cp) := by rw [eW]; go_simp
  have s0 : Wn.cell? ⟨w11.heap.size, 0, none⟩ = some (.int .i64 mx) := by rw [eW]; exact cell_else (by simp; omega) (cell_else (by simp; omega) s0)
  have s1 : Wn.cell? ⟨w11.heap.size, 1, none⟩ = some (.int .i64 my) := by rw [eW]; exact cell_else (by simp; omega) (cell_else (by simp; omega) s1)
  have s2 : Wn.cell? ⟨w11.heap.size, 2, none⟩ = some (.slice po2 l.length cp2) := by rw [eW]; exact cell_else (by simp; omega) (cell_else (by simp; omega) s2)
  have HPt1 : Hid (PtsT Wn po l) := by unfold Hid; rw [eW]; exact HPt1.out.putN HNb.out
  have HPt2 : Hid (PtsT Wn po2 l2) := by unfold Hid; rw [eW]; exact HPt2.out.putN HNb2.out
  have Mn : Hid (Made w.heap.size w Wn) := by unfold Hid; rw [eW]; exact (My.out.put (by simp; omega) _).put (by simp; omega) _
  have lt15 : w10.heap.size < Wn.heap.size := World.block_lt_of_cell? _ _ t0
  have ls15 : w11.heap.size < Wn.heap.size := World.block_lt_of_cell? _ _ s0
  have lwn : w.heap.size ≤ Wn.heap.size := Mn.out.1.size
  rw [← eW]
  clear eW tf
  obtain ⟨len, el⟩ : ∃ n, l.length = n := ⟨_, rfl⟩
  have EL := hid el
  have E4 : Hid (l2.length = len) := by have := E4.out; rw [el] at this; exact this
  rw [el] at t2 s2 hl2 ⊢
  clear el
  have T2 := hid t2; have S2 := hid s2
  go_wp2_with fail
  go_loopg [117] len (fun gg j wr => ∃ q : Nat, q + gg = len ∧ j = .int .i64 q ∧ Hid (Made Wn.heap.size Wn wr))
  case atStart => exact ⟨0, by omega, rfl, Made.rfl_ _ _⟩
  case round =>
    obtain ⟨q, hq, rfl, HM⟩ := hrel
    by_cases hlt : q < len
    · obtain ⟨p, hp⟩ : ∃ p, l[q]? = some p := ⟨_, List.getElem?_eq_getElem (by rw [EL.out]; exact hlt)⟩
      obtain ⟨kq, hp2⟩ := E5.out q p hp
      obtain ⟨ba, oa, ea, ha⟩ := HPt1.out.kept HM.out (by rw [EL.out]; omega)
      obtain ⟨bb, ob, eb, hb⟩ := HPt2.out.kept HM.out (by rw [E4.out]; omega)
      obtain ⟨x0, x1, x2, x3⟩ := ha q _ hp
      obtain ⟨y0, y1, y2, y3⟩ := hb q _ hp2
      have t2 := HM.out.reads T2.out
      have s2 := HM.out.reads S2.out
      rw [ea] at t2
      rw [eb] at s2
      clear ha hb hp hp2 ea eb x3 y3
      go_upto_region 23 with fail
      refine reg_made (by kernel_rfl) (by kernel_rfl) ?_
      intro Ty hT fw hf
      have t2' := Class.reads hf t2
      have s2' := Class.reads hf s2
      have x0' := Class.reads hf x0
      have x1' := Class.reads hf x1
      have x2' := Class.reads hf x2
      have y0' := Class.reads hf y0
      have y1' := Class.reads hf y1
      have y2' := Class.reads hf y2
      repeat (go_big_quiet_step (fail))
      refine wpQuiet_nil ?_
      intro w3 h3
      have M3 : Hid (Made Wn.heap.size Wn w3) := HM.out.then_ ((hf.here h3).low HM.out.1.size)
      clear h3 hf t2 s2 t2' s2' x0 x1 x2 y0 y1 y2 x0' x1' x2' y0' y1' y2'
      go_wp2_with fail
      go_roundg (len - q - 1)
      case rel => exact ⟨q + 1, by omega, by go_num, M3⟩
      case measure => omega
    · go_wp2_with fail
      go_ret
      exact ⟨rfl, Mn.out.then_ (HM.out.low lwn)⟩

set_option maxRecDepth 100000 in
set_option maxHeartbeats 2000000 in
theorem tturned_walk (TS : TouchSays) (a b c d x y an a2 b2 c2 d2 x2 y2 an2 : Int) (w : World) (ix : I64 x) (iy : I64 y) (ix2 : I64 x2) (iy2 : I64 y2) :
    Calls Try.prog 8 #[placeV a b c d x y an, placeV a2 b2 c2 d2 x2 y2 an2] w fun e w' => e = .returned (.bool true) ∧ Made w.heap.size w w' := by
  obtain ⟨X, Y, A, K, R, ao, sn, ac, bd, hW1, hB1⟩ := place_is a b c d x y an ix iy
  obtain ⟨X2, Y2, A2, K2, R2, ao2, sn2, ac2, bd2, hW2, hB2⟩ := place_is a2 b2 c2 d2 x2 y2 an2 ix2 iy2
  obtain ⟨iX, iY, iA, iR⟩ := hW1.i64
  obtain ⟨iX2, iY2, iA2, iR2⟩ := hW2.i64
  have z : I64 0 := by unfold I64; omega
  have hmix : ∀ (P : Cs) (n : Nat) (c : Int × Int) (r : Int), I64 ((mixedF P n c r).getD noTch).nx ∧ I64 ((mixedF P n c r).getD noTch).ny := fun P n c r => by
    cases h : mixedF P n c r with
    | none => exact ⟨z, z⟩
    | some t => exact i64_mixed' _ _ _ _ _ h
  have hmap : ∀ (P : Cs) (n : Nat) (c : Int × Int) (r : Int), I64 (((mixedF P n c r).map negT).getD noTch).nx ∧ I64 (((mixedF P n c r).map negT).getD noTch).ny := fun P n c r => by
    cases h : mixedF P n c r with
    | none => exact ⟨z, z⟩
    | some t =>
      obtain ⟨h1, h2⟩ := i64_mixed' _ _ _ _ _ h
      exact ⟨i64_neg h1, i64_neg h2⟩
  rcases hW1.kind with ⟨hK, _, _, _, _, hb⟩ | ⟨hK, _, _, _, _, gx, gy, gk, _, _, hb⟩ <;> rcases hW2.kind with ⟨hK2, _, _, _, _, hb2⟩ | ⟨hK2, _, _, _, _, gx2, gy2, gk2, _, _, hb2⟩
  · exact tturned_circles TS a b c d x y an a2 b2 c2 d2 x2 y2 an2 w ix iy ix2 iy2 X Y A K R X2 Y2 A2 K2 R2 ao ao2 sn sn2 ac ac2 bd bd2 hW1 hW2 hB1 hB2 hK hK2 (by rw [hb, hb2]; exact (turned_some iX iY iX2 iY2).symm)
  · exact tturned_diff TS a b c d x y an a2 b2 c2 d2 x2 y2 an2 w ix iy ix2 iy2 X Y A K R X2 Y2 A2 K2 R2 ao ao2 sn sn2 ac ac2 bd bd2 hW1 hW2 hB1 hB2 (by omega) (by rw [hb, hb2]; exact (turned_pc _ _ _ _).2) (by rw [hb, hb2]; exact hmap _ _ _ _)
  · exact tturned_diff TS a b c d x y an a2 b2 c2 d2 x2 y2 an2 w ix iy ix2 iy2 X Y A K R X2 Y2 A2 K2 R2 ao ao2 sn sn2 ac ac2 bd bd2 hW1 hW2 hB1 hB2 (by omega) (by rw [hb, hb2]; exact (turned_pc _ _ _ _).1) (by rw [hb, hb2]; exact hmix _ _ _ _)
  · exact tturned_polys TS a b c d x y an a2 b2 c2 d2 x2 y2 an2 w ix iy ix2 iy2 X Y A K R X2 Y2 A2 K2 R2 ao ao2 sn sn2 ac ac2 bd bd2 hW1 hW2 hB1 hB2 _ _ _ _ hb hb2
end Go.Proofs.Ytckgpkbdckpcmaa.Fx
