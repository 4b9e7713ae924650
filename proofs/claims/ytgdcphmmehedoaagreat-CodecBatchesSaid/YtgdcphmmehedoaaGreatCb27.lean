/- OrMb OrMc -/
import Derived.Test.YtgdcphmmehedoaaGreatCb26
set_option maxRecDepth 100000
set_option maxHeartbeats 64000000
/- The statements' Order of a deed, some kinds. -/
namespace Go.Proofs.YtgdcphmmehedoaaGreat.Fx
open Go.ChangeShapes Go.WideShapes Go.ChangeAt Go.RowKit
set_option linter.unusedVariables false
theorem dorder_a {Q : Option Addr → Nat → Prop} (ar : Array Value) (kd vx vy sp a K aq VX VY SP PX PY : Int) (hsz : ar.size = 30) (h_0 : ar[0]? = some (.int .i64 kd)) (h_8 : ar[8]? = some (.int .i64 vx)) (h_9 : ar[9]? = some (.int .i64 vy)) (h_10 : ar[10]? = some (.int .i64 sp)) (h_12 : ar[12]? = some (.int .i64 a)) (bid bx b_y bvx bvy ban bsp bde bk br : Int) (bao : Option Addr) (bn bq : Nat) (bf : Cs) (jid ja jb jax jay jtx jty jln : Int) (w : World) (hK : kd % 8 = K) (hA : a % 16 = aq)
  (hKc : K = 2 ∨ K = 3) (ivx : I64 vx) (ivy : I64 vy) (isp : I64 sp) (hVX : bringF vx (negF 858993459200) 858993459200 = VX) (hVY : bringF vy (negF 858993459200) 858993459200 = VY) (hSP : bringF sp (-858993459200) 858993459200 = SP) (hPX : bringF vx (negF 214748364800) 214748364800 = PX) (hPY : bringF vy (negF 214748364800) 214748364800 = PY)
  (HBo : ∀ v, Made w.heap.size w v → Calls Tryz.prog 48 #[.agg ar] v fun e u => ∃ ao bc, e = .returned (bodyV bid bx b_y bvx bvy ban bsp bde bk br (.slice ao bn bc)) ∧ Sl u ao bn bf ∧ Q ao bc ∧ Made v.heap.size v u ∧ (0 < bn → ∀ b off s, ao = some ⟨b, off, s⟩ → b < w.heap.size ∨ v.heap.size ≤ b))
  (HJo : ∀ v, Calls Tryz.prog 44 #[.agg ar] v fun e u => e = .returned (.agg #[.int .i64 jid, .int .i64 ja, .int .i64 jb, .int .i64 jax, .int .i64 jay, .int .i64 jtx, .int .i64 jty, .int .i64 jln]) ∧ Made v.heap.size v u) :
  Calls Tryz.prog 69 #[.agg ar] w fun e v => Ans1 Q w K aq VX VY SP PX PY ⟨jid, ja, jb, jax, jay, jtx, jty, jln⟩ ⟨bid, bx, b_y, bvx, bvy, ban, bsp, bde, bk, br, bao, bn, bq, bf⟩ e v := by
 have HSZ := hid hsz
 have H0 := hid (And.intro h_0 (And.intro h_8 (And.intro h_9 (And.intro h_10 h_12))))
 have HBr := hid (And.intro hVX (And.intro hVY (And.intro hSP (And.intro hPX hPY))))
 have HIn := hid (And.intro ivx (And.intro ivy isp))
 clear hsz h_0 h_8 h_9 h_10 h_12 hVX hVY hSP hPX hPY ivx ivy isp
 have HBo := hid HBo
 have HJo := hid HJo
 have aK := (and7 kd).trans hK
 have aA := (and15 a).trans hA
 clear hK hA
 obtain ⟨W, eW⟩ : ∃ W, W = (w.alloc (.cells ar 37)).alloc (.cells #[.int .i64 0, .int .i64 0, .int .i64 0, .int .i64 0, .int .i64 0, .int .i64 0, .int .i64 0, .int .i64 0, .int .i64 0, .int .i64 0, .int .i64 0, .int .i64 0, .int .i64 0, .int .i64 0, .slice none 0 0] 49) := ⟨_, rfl⟩
 have KW : Hid (Made w.heap.size w W) := by unfold Hid; rw [eW]; exact ((Made.rfl_ _ _).cells (Nat.le_refl _) _ _).cells (by simp) _ _
 have HD : Hid (Has W w.heap.size 37 ar) := by unfold Hid; rw [eW]; exact (has_new _ _ _).more _
 have HR : Hid (Has W (w.heap.size + 1) 49 #[.int .i64 0, .int .i64 0, .int .i64 0, .int .i64 0, .int .i64 0, .int .i64 0, .int .i64 0, .int .i64 0, .int .i64 0, .int .i64 0, .int .i64 0, .int .i64 0, .int .i64 0, .int .i64 0, .slice none 0 0]) := by unfold Hid; rw [eW]; exact has_nxt' _ _ _ _
 obtain ⟨g1, eg1⟩ : ∃ g, w.heap.size = g := ⟨_, rfl⟩
 obtain ⟨g2, eg2⟩ : ∃ g, g1 + 1 = g := ⟨_, rfl⟩
 have hw1 : w.heap.size ≤ g1 := Nat.le_of_eq eg1
 have HG12 : Hid (w.heap.size = g1 ∧ g1 + 1 = g2) := ⟨eg1, eg2⟩
 rw [eg1] at HD
 rw [eg1, eg2] at HR
 go_enter Tryz.func69, Tryz.ntmps69
 go_upto_region 1 with fail
 rw [← eW]
 clear eW
 try rw [eg1]
 try rw [eg2]
 clear eg1 eg2
 have ld : g1 < W.heap.size := HD.out.here
 go_cut [3, 4] (fun s3 s4 wx => ∃ (ao : Option Addr) (bc g3 g4 : Nat), s3 = .pointer (some ⟨g3, 0, none⟩) ∧ s4 = .pointer (some ⟨g4, 0, none⟩) ∧ Hid (Made w.heap.size w wx ∧ Has wx g1 37 ar ∧ Has wx g2 49 #[.int .i64 0, .int .i64 0, .int .i64 0, .int .i64 0, .int .i64 0, .int .i64 0, .int .i64 0, .int .i64 0, .int .i64 0, .int .i64 0, .int .i64 0, .int .i64 0, .int .i64 0, .int .i64 0, .slice none 0 0] ∧ Has wx g3 35 #[.int .i64 bid, .int .i64 bx, .int .i64 b_y, .int .i64 bvx, .int .i64 bvy, .int .i64 ban, .int .i64 bsp, .int .i64 bde, .int .i64 bk, .int .i64 br, .slice ao bn bc] ∧ Has wx g4 102 #[.int .i64 jid, .int .i64 ja, .int .i64 jb, .int .i64 jax, .int .i64 jay, .int .i64 jtx, .int .i64 jty, .int .i64 jln] ∧ Sl wx ao bn bf ∧ Q ao bc ∧ (0 < bn → ∀ b off s, ao = some ⟨b, off, s⟩ → ¬ b = g2)))
 case first =>
  rename_i JJ KK hJJ hKK
  have HJJ := hid hJJ
  have HKK := hid hKK
  go_wp2_with fail
  refine MI.reg_mk (alD Q w.heap.size (fun ao bc => bodyV bid bx b_y bvx bvy ban bsp bde bk br (.slice ao bn bc)) bn bf) 6 [0, 2, 1, 3, 4, 5] [0, 2, 3] [1, 4, 5] [] (fun _ => []) (val := valD) (by kernel_rfl) (by kernel_rfl) (fun p hp => absurd hp (by simp)) ?_
  refine MI.can_class (rest := [1, 3, 4, 5]) [0, 2] [] 69 (alD_lasts _ _ _ _ _) (MI.any_class _) (by kernel_rfl) rfl (by kernel_rfl) (by kernel_rfl) ?_
  apply Exists.intro
  refine ⟨?q1, ?q2⟩
  case q1 =>
   intro Ty hT fw hf _
   change wpQuiet _ _ _ _ [_, _] _
   refine wpQuiet_load rfl 37 (.tmp 1) rfl g1 rfl ar 37 _ (Class.has hf HD.out) Tryz.underlying37 rfl (by rw [HSZ.out]; kernel_rfl) ?_
   simp only [Act.put, List.setIfInBounds_toArray, List.set_cons_succ, List.set_cons_zero]
   refine wpQuiet_load rfl 37 (.tmp 1) rfl g1 rfl ar 37 _ (Class.has hf HD.out) Tryz.underlying37 rfl (by rw [HSZ.out]; kernel_rfl) ?_
   simp only [Act.put, List.setIfInBounds_toArray, List.set_cons_succ, List.set_cons_zero]
   exact wpQuiet_nil rfl
  refine MI.can_mk 1 6 _ rfl rfl rfl rfl ?m1 fun q1 e1 => ?n1
  case m1 =>
   intro G' u _ hu
   rw [show (execOp _ _).run Tryz.prog u = .ok (.enter 48 #[.agg ar]) u by kernel_rfl]
   show Calls _ _ _ _ _
   refine (HBo.out u (KW.out.then_ (hu.1.low KW.out.1.size))).mono ?_
   rintro e v ⟨ao, bc, rfl, h1, h2, h3, h4⟩
   refine ⟨u.heap.size, ⟨v.heap.size, bodyV bid bx b_y bvx bvy ban bsp bde bk br (.slice ao bn bc), []⟩, rfl, hu.next (alD_lasts _ _ _ _ _) h3 (Nat.le_refl _) h3.1.size (Nat.le_refl _) ⟨fun _ => ⟨ao, bc, rfl, h1, h2, fun hn b off s e => ?_⟩, fun h => absurd h (by omega), fun h => absurd h (by omega)⟩⟩
   rcases h4 hn b off s e with h | h
   ·exact .inl h
   ·refine .inr ⟨h, ?_⟩
    obtain ⟨b', off', e', hp⟩ := h1 hn
    rw [e] at e'
    cases e'
    exact World.block_lt_of_cell? _ _ (hp 0 hn).1
  rw [show valD 1 q1 e1 = e1.v from rfl]
  simp only [Act.put, List.setIfInBounds_toArray, List.set_cons_succ, List.set_cons_zero]
  refine MI.can_class (rest := [4, 5]) [3] [] 69 (alD_lasts _ _ _ _ _) (MI.any_class _) (by kernel_rfl) rfl (by kernel_rfl) (by kernel_rfl) ?_
  apply Exists.intro
  refine ⟨?q3, ?q4⟩
  case q3 =>
   intro Ty hT fw hf _
   change wpQuiet _ _ _ _ [_] _
   repeat (go_big_quiet_step ((go_at_call 44; exact hf.made (HJo.out _))))
   exact wpQuiet_nil rfl
  refine MI.can_mk 4 3 _ rfl rfl rfl rfl ?m4 fun g3 f3 => ?n4
  case m4 =>
   intro G' u _ hu
   rw [show (execOp _ _).run Tryz.prog u = .ok (.value (.pointer (some ⟨u.heap.size, 0, none⟩))) (u.alloc (.cells #[.int .i64 0, .int .i64 0, .int .i64 0, .int .i64 0, .int .i64 0, .int .i64 0, .int .i64 0, .int .i64 0, .int .i64 0, .int .i64 0, .slice none 0 0] 35)) by kernel_rfl]
   exact ⟨u.heap.size, ⟨u.heap.size + 1, .bool false, []⟩, rfl, hu.next (alD_lasts _ _ _ _ _) ((Made.rfl_ _ _).cells (Nat.le_refl _) _ _) (Nat.le_refl _) (by simp) (by simp) ⟨fun h => absurd h (by omega), fun _ => ⟨has_new _ _ _, rfl⟩, fun h => absurd h (by omega)⟩⟩
  rw [show valD 4 g3 f3 = .pointer (some ⟨g3, 0, none⟩) from rfl]
  simp only [Act.put, List.setIfInBounds_toArray, List.set_cons_succ, List.set_cons_zero]
  refine MI.can_mk 5 4 _ rfl rfl rfl rfl ?m5 fun g4 f4 => ?n5
  case m5 =>
   intro G' u _ hu
   rw [show (execOp _ _).run Tryz.prog u = .ok (.value (.pointer (some ⟨u.heap.size, 0, none⟩))) (u.alloc (.cells #[.int .i64 0, .int .i64 0, .int .i64 0, .int .i64 0, .int .i64 0, .int .i64 0, .int .i64 0, .int .i64 0] 102)) by kernel_rfl]
   exact ⟨u.heap.size, ⟨u.heap.size + 1, .bool false, []⟩, rfl, hu.next (alD_lasts _ _ _ _ _) ((Made.rfl_ _ _).cells (Nat.le_refl _) _ _) (Nat.le_refl _) (by simp) (by simp) ⟨fun h => absurd h (by omega), fun h => absurd h (by omega), fun _ => ⟨has_new _ _ _, rfl⟩⟩⟩
  rw [show valD 5 g4 f4 = .pointer (some ⟨g4, 0, none⟩) from rfl]
  simp only [Act.put, List.setIfInBounds_toArray, List.set_cons_succ, List.set_cons_zero]
  intro w4 hu
  have k4 := hu.1
  have t1 : (MI.upd (MI.upd (MI.upd (fun _ => none) 1 (q1, e1)) 4 (g3, f3)) 5 (g4, f4)) 1 = some (q1, e1) := by unfold MI.upd; simp
  have t4 : (MI.upd (MI.upd (MI.upd (fun _ => none) 1 (q1, e1)) 4 (g3, f3)) 5 (g4, f4)) 4 = some (g3, f3) := by unfold MI.upd; simp
  have t5 : (MI.upd (MI.upd (MI.upd (fun _ => none) 1 (q1, e1)) 4 (g3, f3)) 5 (g4, f4)) 5 = some (g4, f4) := by unfold MI.upd; simp
  obtain ⟨l1, m1, h1, a1⟩ := hu.2.1 1 _ t1
  obtain ⟨l4, m4, h4, a4⟩ := hu.2.1 4 _ t4
  obtain ⟨l5, m5, h5, a5⟩ := hu.2.1 5 _ t5
  obtain ⟨ao, bc, ev, hsl, hok, hwh⟩ := a1.1 rfl
  obtain ⟨hg3, hf3⟩ := a4.2.1 rfl
  obtain ⟨hg4, hf4⟩ := a5.2.2 rfl
  simp only [] at ev hsl hok hwh hg3 hf3 hg4 hf4 l1 m1 h1 l4 l5
  have hap : ¬ g3 = g4 := by
   rcases hu.2.2 4 5 _ _ t4 t5 (by omega) with h | h
   ·simp only [hf3] at h; omega
   ·simp only [hf4] at h; omega
  have hx3 : ∀ b, q1 ≤ b → b < e1.hi → ¬ b = g3 := fun b hb1 hb2 e => by
   rcases hu.2.2 1 4 _ _ t1 t4 (by omega) with h | h
   ·simp only [] at h; omega
   ·simp only [hf3] at h; omega
  have hx4 : ∀ b, q1 ≤ b → b < e1.hi → ¬ b = g4 := fun b hb1 hb2 e => by
   rcases hu.2.2 1 5 _ _ t1 t5 (by omega) with h | h
   ·simp only [] at h; omega
   ·simp only [hf4] at h; omega
  have hls : w.heap.size < g2 ∧ g2 < W.heap.size := ⟨by have := HG12.out; omega, HR.out.here⟩
  have HOff : Hid (0 < bn → ∀ b off s, ao = some ⟨b, off, s⟩ → ¬ b = g2 ∧ ¬ b = g3 ∧ ¬ b = g4) := fun hn b off s e => by
   rcases hwh hn b off s e with h | ⟨h, h'⟩
   ·omega
   ·exact ⟨by omega, hx3 b h h', hx4 b h h'⟩
  have HSl := hid hsl; have HOk := hid hok; have HG3 := hid hg3; have HG4 := hid hg4
  have HLo := hid (And.intro l4 l5)
  have K4 := hid (KW.out.then_ (k4.low KW.out.1.size))
  have HD4 := hid (HD.out.stays k4 ld)
  have HR4 := hid (HR.out.stays k4 HR.out.here)
  have hr2 : ¬ g2 = g3 ∧ ¬ g2 = g4 ∧ ¬ g1 = g3 ∧ ¬ g1 = g4 := by have h1 := HR.out.here; have h2 := ld; have h3 := HLo.out; omega
  have HKW := hid KW.out.1.size
  rw [ev]
  clear hu a1 a4 a5 t1 t4 t5 hf3 hf4 ev hsl hok hwh hg3 hg4 l1 m1 h1 l4 m4 h4 l5 m5 h5 k4 ld HD HR KW hx3 hx4 hls
  simp only [List.drop_succ_cons, List.drop_zero]
  have y_0 := HG3.out.at_ 0
  have y_1 := HG3.out.at_ 1
  have y_2 := HG3.out.at_ 2
  have y_3 := HG3.out.at_ 3
  have y_4 := HG3.out.at_ 4
  have y_5 := HG3.out.at_ 5
  have y_6 := HG3.out.at_ 6
  have y_7 := HG3.out.at_ 7
  have y_8 := HG3.out.at_ 8
  have y_9 := HG3.out.at_ 9
  have y_10 := HG3.out.at_ 10
  simp at y_0 y_1 y_2 y_3 y_4 y_5 y_6 y_7 y_8 y_9 y_10
  have lg3 : g3 < w4.heap.size := HG3.out.here
  have fg3 : ∀ i, w4.frozen? ⟨g3, i, none⟩ = false := HG3.out.free
  have x_0 := HG4.out.at_ 0
  have x_1 := HG4.out.at_ 1
  have x_2 := HG4.out.at_ 2
  have x_3 := HG4.out.at_ 3
  have x_4 := HG4.out.at_ 4
  have x_5 := HG4.out.at_ 5
  have x_6 := HG4.out.at_ 6
  have x_7 := HG4.out.at_ 7
  simp at x_0 x_1 x_2 x_3 x_4 x_5 x_6 x_7
  have lg4 : g4 < w4.heap.size := HG4.out.here
  have fg4 : ∀ i, w4.frozen? ⟨g4, i, none⟩ = false := HG4.out.free
  obtain ⟨W5, eW5⟩ : ∃ V, V = (((((((((((((((((((w4).setCell ⟨g3, 0, none⟩ (.int .i64 bid)).setCell ⟨g3, 1, none⟩ (.int .i64 bx)).setCell ⟨g3, 2, none⟩ (.int .i64 b_y)).setCell ⟨g3, 3, none⟩ (.int .i64 bvx)).setCell ⟨g3, 4, none⟩ (.int .i64 bvy)).setCell ⟨g3, 5, none⟩ (.int .i64 ban)).setCell ⟨g3, 6, none⟩ (.int .i64 bsp)).setCell ⟨g3, 7, none⟩ (.int .i64 bde)).setCell ⟨g3, 8, none⟩ (.int .i64 bk)).setCell ⟨g3, 9, none⟩ (.int .i64 br)).setCell ⟨g3, 10, none⟩ (.slice ao bn bc)).setCell ⟨g4, 0, none⟩ (.int .i64 jid)).setCell ⟨g4, 1, none⟩ (.int .i64 ja)).setCell ⟨g4, 2, none⟩ (.int .i64 jb)).setCell ⟨g4, 3, none⟩ (.int .i64 jax)).setCell ⟨g4, 4, none⟩ (.int .i64 jay)).setCell ⟨g4, 5, none⟩ (.int .i64 jtx)).setCell ⟨g4, 6, none⟩ (.int .i64 jty)).setCell ⟨g4, 7, none⟩ (.int .i64 jln) := ⟨_, rfl⟩
  have k5 : But (fun b => b = g3 ∨ b = g4) w4 W5 := by rw [eW5]; exact ((((((((((((((((((((But.rfl_ (fun b => b = g3 ∨ b = g4) w4).put (p := ⟨g3, 0, none⟩) (.inl (.inl rfl)) _).put (p := ⟨g3, 1, none⟩) (.inl (.inl rfl)) _).put (p := ⟨g3, 2, none⟩) (.inl (.inl rfl)) _).put (p := ⟨g3, 3, none⟩) (.inl (.inl rfl)) _).put (p := ⟨g3, 4, none⟩) (.inl (.inl rfl)) _).put (p := ⟨g3, 5, none⟩) (.inl (.inl rfl)) _).put (p := ⟨g3, 6, none⟩) (.inl (.inl rfl)) _).put (p := ⟨g3, 7, none⟩) (.inl (.inl rfl)) _).put (p := ⟨g3, 8, none⟩) (.inl (.inl rfl)) _).put (p := ⟨g3, 9, none⟩) (.inl (.inl rfl)) _).put (p := ⟨g3, 10, none⟩) (.inl (.inl rfl)) _).put (p := ⟨g4, 0, none⟩) (.inl (.inr rfl)) _).put (p := ⟨g4, 1, none⟩) (.inl (.inr rfl)) _).put (p := ⟨g4, 2, none⟩) (.inl (.inr rfl)) _).put (p := ⟨g4, 3, none⟩) (.inl (.inr rfl)) _).put (p := ⟨g4, 4, none⟩) (.inl (.inr rfl)) _).put (p := ⟨g4, 5, none⟩) (.inl (.inr rfl)) _).put (p := ⟨g4, 6, none⟩) (.inl (.inr rfl)) _).put (p := ⟨g4, 7, none⟩) (.inl (.inr rfl)) _)
  have HG5 : Hid (Has W5 g3 35 #[.int .i64 bid, .int .i64 bx, .int .i64 b_y, .int .i64 bvx, .int .i64 bvy, .int .i64 ban, .int .i64 bsp, .int .i64 bde, .int .i64 bk, .int .i64 br, .slice ao bn bc]) := by
   unfold Hid
   rw [eW5]
   have j0 := HG3.out.put11 (.int .i64 bid) (.int .i64 bx) (.int .i64 b_y) (.int .i64 bvx) (.int .i64 bvy) (.int .i64 ban) (.int .i64 bsp) (.int .i64 bde) (.int .i64 bk) (.int .i64 br) (.slice ao bn bc)
   exact ((((((((j0.other ⟨g4, 0, none⟩ hap _).other ⟨g4, 1, none⟩ hap _).other ⟨g4, 2, none⟩ hap _).other ⟨g4, 3, none⟩ hap _).other ⟨g4, 4, none⟩ hap _).other ⟨g4, 5, none⟩ hap _).other ⟨g4, 6, none⟩ hap _).other ⟨g4, 7, none⟩ hap _)
  have HX4 : Hid (Has ((((((((((((w4).setCell ⟨g3, 0, none⟩ (.int .i64 bid)).setCell ⟨g3, 1, none⟩ (.int .i64 bx)).setCell ⟨g3, 2, none⟩ (.int .i64 b_y)).setCell ⟨g3, 3, none⟩ (.int .i64 bvx)).setCell ⟨g3, 4, none⟩ (.int .i64 bvy)).setCell ⟨g3, 5, none⟩ (.int .i64 ban)).setCell ⟨g3, 6, none⟩ (.int .i64 bsp)).setCell ⟨g3, 7, none⟩ (.int .i64 bde)).setCell ⟨g3, 8, none⟩ (.int .i64 bk)).setCell ⟨g3, 9, none⟩ (.int .i64 br)).setCell ⟨g3, 10, none⟩ (.slice ao bn bc)) g4 102 #[.int .i64 0, .int .i64 0, .int .i64 0, .int .i64 0, .int .i64 0, .int .i64 0, .int .i64 0, .int .i64 0]) := (((((((((((HG4.out.other ⟨g3, 0, none⟩ (Ne.symm hap) _).other ⟨g3, 1, none⟩ (Ne.symm hap) _).other ⟨g3, 2, none⟩ (Ne.symm hap) _).other ⟨g3, 3, none⟩ (Ne.symm hap) _).other ⟨g3, 4, none⟩ (Ne.symm hap) _).other ⟨g3, 5, none⟩ (Ne.symm hap) _).other ⟨g3, 6, none⟩ (Ne.symm hap) _).other ⟨g3, 7, none⟩ (Ne.symm hap) _).other ⟨g3, 8, none⟩ (Ne.symm hap) _).other ⟨g3, 9, none⟩ (Ne.symm hap) _).other ⟨g3, 10, none⟩ (Ne.symm hap) _)
  have HJ5 : Hid (Has W5 g4 102 #[.int .i64 jid, .int .i64 ja, .int .i64 jb, .int .i64 jax, .int .i64 jay, .int .i64 jtx, .int .i64 jty, .int .i64 jln]) := by
   unfold Hid
   rw [eW5]
   exact ((((((((HX4.out.put 0 _).put 1 _).put 2 _).put 3 _).put 4 _).put 5 _).put 6 _).put 7 _)
  clear HX4
  go_wp2_with fail
  refine NoPanic.normal ?_
  rw [← eW5]
  refine HKK.out _ _ (Met.intro (HJJ.out _ _ ?_))
  (repeat apply Exists.intro)
  refine ⟨?rel, rfl⟩
  clear eW5 y_0 y_1 y_2 y_3 y_4 y_5 y_6 y_7 y_8 y_9 y_10 x_0 x_1 x_2 x_3 x_4 x_5 x_6 x_7 lg3 fg3 lg4 fg4
  refine ⟨ao, bc, g3, g4, rfl, rfl, But.made_ K4.out k5 K4.out.1.size (fun b hb => by have hb : b = g3 ∨ b = g4 := hb; have h := HLo.out; have h2 := HKW.out; omega), HD4.out.but k5 (by show ¬ (g1 = g3 ∨ g1 = g4); omega), HR4.out.but k5 (by show ¬ (g2 = g3 ∨ g2 = g4); omega), HG5.out, HJ5.out, fun hn => ?_, HOk.out, fun hn b off s e => (HOff.out hn b off s e).1⟩
  obtain ⟨b, off, e, hp⟩ := HSl.out hn
  have hx := HOff.out hn b off none e
  exact ⟨b, off, e, hp.but k5 (by show ¬ (b = g3 ∨ b = g4); omega)⟩
 case rest =>
  obtain ⟨ao, bc, g3, g4, rfl, rfl, HH⟩ := hcut
  have K4 := hid HH.out.1
  have HD4 := hid HH.out.2.1
  have HR4 := hid HH.out.2.2.1
  have HG4 := hid HH.out.2.2.2.1
  have HJ4 := hid HH.out.2.2.2.2.1
  have HS := hid (And.intro trivial HH.out.2.2.2.2.2)
  have d0 : wc.cell? ⟨g1, 0, none⟩ = some (.int .i64 kd) := by rw [HD4.out.at_]; exact H0.out.1
  have d8 : wc.cell? ⟨g1, 8, none⟩ = some (.int .i64 vx) := by rw [HD4.out.at_]; exact H0.out.2.1
  have d9 : wc.cell? ⟨g1, 9, none⟩ = some (.int .i64 vy) := by rw [HD4.out.at_]; exact H0.out.2.2.1
  have d10 : wc.cell? ⟨g1, 10, none⟩ = some (.int .i64 sp) := by rw [HD4.out.at_]; exact H0.out.2.2.2.1
  have d12 : wc.cell? ⟨g1, 12, none⟩ = some (.int .i64 a) := by rw [HD4.out.at_]; exact H0.out.2.2.2.2
  have ld : g1 < wc.heap.size := HD4.out.here
  clear HH HD HR KW HBo HJo
  have kS : But (fun b => b = g2) wc wc := But.rfl_ _ _
  have b0 := HR4.out.at_ 0
  have b1 := HR4.out.at_ 1
  have b2 := HR4.out.at_ 2
  have b3 := HR4.out.at_ 3
  have b4 := HR4.out.at_ 4
  have b5 := HR4.out.at_ 5
  have b6 := HR4.out.at_ 6
  have b7 := HR4.out.at_ 7
  have b8 := HR4.out.at_ 8
  have b9 := HR4.out.at_ 9
  have b10 := HR4.out.at_ 10
  have b11 := HR4.out.at_ 11
  have b12 := HR4.out.at_ 12
  have b13 := HR4.out.at_ 13
  have b14 := HR4.out.at_ 14
  simp at b0 b1 b2 b3 b4 b5 b6 b7 b8 b9 b10 b11 b12 b13 b14
  have l2 : g2 < wc.heap.size := HR4.out.here
  have fr2 : ∀ i, wc.frozen? ⟨g2, i, none⟩ = false := HR4.out.free
  by_cases k2 : K = 2
  ·subst k2
   have iM : I64 858993459200 := by unfold I64; omega
   have iN : I64 (-858993459200) := by unfold I64; omega
   go_upto_region 4 with fail
   refine reg_made_tail 10 (by kernel_rfl) (by kernel_rfl) ?_
   intro Ty hT fw hf
   have z8 := Class.reads hf d8
   have z9 := Class.reads hf d9
   have z10 := Class.reads hf d10
   have z12 := Class.reads hf d12
   simp only [List.take_succ_cons, List.take_zero, List.drop_succ_cons, List.drop_zero]
   repeat (go_big_quiet_step ((first | (go_at_call 81; with_reducible exact hf.made (vbring_is _ _ _ _ _ _ HIn.out.1 HIn.out.2.1 iM HBr.out.1 HBr.out.2.1)) | (go_at_call 82; with_reducible exact hf.same (bring_is _ _ _ _ _ HIn.out.2.2 iN iM HBr.out.2.2.1)))))
   refine wpQuiet_nil ?_
   intro w5 h5
   have k5 := hf.here h5
   have K5 := hid (K4.out.then_ (k5.low K4.out.1.size))
   have HR5 := hid (HR4.out.stays k5 HR4.out.here)
   clear k5 h5 hf z8 z9 z10 z12 b0 b1 b2 b3 b4 b5 b6 b7 b8 b9 b10 b11 b12 b13 b14 l2 fr2 d0 d8 d9 d10 d12 ld
   have b0 := HR5.out.at_ 0
   have b1 := HR5.out.at_ 1
   have b2 := HR5.out.at_ 2
   have b3 := HR5.out.at_ 3
   have b4 := HR5.out.at_ 4
   have b5 := HR5.out.at_ 5
   have b6 := HR5.out.at_ 6
   have b7 := HR5.out.at_ 7
   have b8 := HR5.out.at_ 8
   have b9 := HR5.out.at_ 9
   have b10 := HR5.out.at_ 10
   have b11 := HR5.out.at_ 11
   have b12 := HR5.out.at_ 12
   have b13 := HR5.out.at_ 13
   have b14 := HR5.out.at_ 14
   simp at b0 b1 b2 b3 b4 b5 b6 b7 b8 b9 b10 b11 b12 b13 b14
   have l2 : g2 < w5.heap.size := HR5.out.here
   have fr2 : ∀ i, w5.frozen? ⟨g2, i, none⟩ = false := HR5.out.free
   go_wp2_with fail
   try refine NoPanic.normal ?_
   obtain ⟨W9, eW9⟩ : ∃ V, V = (((((((((((((((w5).setCell ⟨g2, 0, none⟩ (.int .i64 5)).setCell ⟨g2, 1, none⟩ (.int .i64 aq)).setCell ⟨g2, 2, none⟩ (.int .i64 0)).setCell ⟨g2, 3, none⟩ (.int .i64 0)).setCell ⟨g2, 4, none⟩ (.int .i64 0)).setCell ⟨g2, 5, none⟩ (.int .i64 0)).setCell ⟨g2, 6, none⟩ (.int .i64 VX)).setCell ⟨g2, 7, none⟩ (.int .i64 VY)).setCell ⟨g2, 8, none⟩ (.int .i64 0)).setCell ⟨g2, 9, none⟩ (.int .i64 SP)).setCell ⟨g2, 10, none⟩ (.int .i64 0)).setCell ⟨g2, 11, none⟩ (.int .i64 0)).setCell ⟨g2, 12, none⟩ (.int .i64 0)).setCell ⟨g2, 13, none⟩ (.int .i64 0)).setCell ⟨g2, 14, none⟩ (.slice none 0 0) := ⟨_, rfl⟩
   have k9 : But (fun b => b = g2) w5 W9 := by rw [eW9]; exact (But.rfl_ (fun b => b = g2) _).put15 (.inl rfl) (.int .i64 5) (.int .i64 aq) (.int .i64 0) (.int .i64 0) (.int .i64 0) (.int .i64 0) (.int .i64 VX) (.int .i64 VY) (.int .i64 0) (.int .i64 SP) (.int .i64 0) (.int .i64 0) (.int .i64 0) (.int .i64 0) (.slice none 0 0)
   have HR9 : Has W9 g2 49 #[.int .i64 5, .int .i64 aq, .int .i64 0, .int .i64 0, .int .i64 0, .int .i64 0, .int .i64 VX, .int .i64 VY, .int .i64 0, .int .i64 SP, .int .i64 0, .int .i64 0, .int .i64 0, .int .i64 0, .slice none 0 0] := by rw [eW9]; exact HR5.out.put15 (.int .i64 5) (.int .i64 aq) (.int .i64 0) (.int .i64 0) (.int .i64 0) (.int .i64 0) (.int .i64 VX) (.int .i64 VY) (.int .i64 0) (.int .i64 SP) (.int .i64 0) (.int .i64 0) (.int .i64 0) (.int .i64 0) (.slice none 0 0)
   rw [← eW9]
   clear eW9 b0 b1 b2 b3 b4 b5 b6 b7 b8 b9 b10 b11 b12 b13 b14
   have q0 := HR9.at_ 0
   have q1 := HR9.at_ 1
   have q2 := HR9.at_ 2
   have q3 := HR9.at_ 3
   have q4 := HR9.at_ 4
   have q5 := HR9.at_ 5
   have q6 := HR9.at_ 6
   have q7 := HR9.at_ 7
   have q8 := HR9.at_ 8
   have q9 := HR9.at_ 9
   have q10 := HR9.at_ 10
   have q11 := HR9.at_ 11
   have q12 := HR9.at_ 12
   have q13 := HR9.at_ 13
   have q14 := HR9.at_ 14
   simp at q0 q1 q2 q3 q4 q5 q6 q7 q8 q9 q10 q11 q12 q13 q14
   refine bodyPost_ret (v := .agg #[.int .i64 5, .int .i64 aq, .int .i64 0, .int .i64 0, .int .i64 0, .int .i64 0, .int .i64 VX, .int .i64 VY, .int .i64 0, .int .i64 SP, .int .i64 0, .int .i64 0, .int .i64 0, .int .i64 0, .slice none 0 0]) (by simp [results, Tryz.results69, go_sem, q0, q1, q2, q3, q4, q5, q6, q7, q8, q9, q10, q11, q12, q13, q14]) rfl ⟨ao, bc, ?_, ?_, HS.out.2.2.1, But.made_ K5.out k9 K5.out.1.size (fun b hb => by have hb : b = g2 := hb; have h := HG12.out; omega)⟩
   ·rfl
   ·exact fun hn => absurd hn (Nat.lt_irrefl 0)
  by_cases k3 : K = 3
  ·subst k3
   go_upto_region 6 with fail
   go_wp2_with fail
   try refine NoPanic.normal ?_
   obtain ⟨W9, eW9⟩ : ∃ V, V = (((((((((((((((wc).setCell ⟨g2, 0, none⟩ (.int .i64 4)).setCell ⟨g2, 1, none⟩ (.int .i64 aq)).setCell ⟨g2, 2, none⟩ (.int .i64 0)).setCell ⟨g2, 3, none⟩ (.int .i64 0)).setCell ⟨g2, 4, none⟩ (.int .i64 0)).setCell ⟨g2, 5, none⟩ (.int .i64 0)).setCell ⟨g2, 6, none⟩ (.int .i64 0)).setCell ⟨g2, 7, none⟩ (.int .i64 0)).setCell ⟨g2, 8, none⟩ (.int .i64 0)).setCell ⟨g2, 9, none⟩ (.int .i64 0)).setCell ⟨g2, 10, none⟩ (.int .i64 0)).setCell ⟨g2, 11, none⟩ (.int .i64 0)).setCell ⟨g2, 12, none⟩ (.int .i64 0)).setCell ⟨g2, 13, none⟩ (.int .i64 0)).setCell ⟨g2, 14, none⟩ (.slice none 0 0) := ⟨_, rfl⟩
   have k9 : But (fun b => b = g2) wc W9 := by rw [eW9]; exact (But.rfl_ (fun b => b = g2) _).put15 (.inl rfl) (.int .i64 4) (.int .i64 aq) (.int .i64 0) (.int .i64 0) (.int .i64 0) (.int .i64 0) (.int .i64 0) (.int .i64 0) (.int .i64 0) (.int .i64 0) (.int .i64 0) (.int .i64 0) (.int .i64 0) (.int .i64 0) (.slice none 0 0)
   have HR9 : Has W9 g2 49 #[.int .i64 4, .int .i64 aq, .int .i64 0, .int .i64 0, .int .i64 0, .int .i64 0, .int .i64 0, .int .i64 0, .int .i64 0, .int .i64 0, .int .i64 0, .int .i64 0, .int .i64 0, .int .i64 0, .slice none 0 0] := by rw [eW9]; exact HR4.out.put15 (.int .i64 4) (.int .i64 aq) (.int .i64 0) (.int .i64 0) (.int .i64 0) (.int .i64 0) (.int .i64 0) (.int .i64 0) (.int .i64 0) (.int .i64 0) (.int .i64 0) (.int .i64 0) (.int .i64 0) (.int .i64 0) (.slice none 0 0)
   rw [← eW9]
   clear eW9 b0 b1 b2 b3 b4 b5 b6 b7 b8 b9 b10 b11 b12 b13 b14
   have q0 := HR9.at_ 0
   have q1 := HR9.at_ 1
   have q2 := HR9.at_ 2
   have q3 := HR9.at_ 3
   have q4 := HR9.at_ 4
   have q5 := HR9.at_ 5
   have q6 := HR9.at_ 6
   have q7 := HR9.at_ 7
   have q8 := HR9.at_ 8
   have q9 := HR9.at_ 9
   have q10 := HR9.at_ 10
   have q11 := HR9.at_ 11
   have q12 := HR9.at_ 12
   have q13 := HR9.at_ 13
   have q14 := HR9.at_ 14
   simp at q0 q1 q2 q3 q4 q5 q6 q7 q8 q9 q10 q11 q12 q13 q14
   refine bodyPost_ret (v := .agg #[.int .i64 4, .int .i64 aq, .int .i64 0, .int .i64 0, .int .i64 0, .int .i64 0, .int .i64 0, .int .i64 0, .int .i64 0, .int .i64 0, .int .i64 0, .int .i64 0, .int .i64 0, .int .i64 0, .slice none 0 0]) (by simp [results, Tryz.results69, go_sem, q0, q1, q2, q3, q4, q5, q6, q7, q8, q9, q10, q11, q12, q13, q14]) rfl ⟨ao, bc, ?_, ?_, HS.out.2.2.1, But.made_ K4.out k9 K4.out.1.size (fun b hb => by have hb : b = g2 := hb; have h := HG12.out; omega)⟩
   ·rfl
   ·exact fun hn => absurd hn (Nat.lt_irrefl 0)
  omega
end Go.Proofs.YtgdcphmmehedoaaGreat.Fx
/- The statements' Order of a deed, some kinds. -/
namespace Go.Proofs.YtgdcphmmehedoaaGreat.Fx
open Go.ChangeShapes Go.WideShapes Go.ChangeAt Go.RowKit
set_option linter.unusedVariables false
theorem dorder_b {Q : Option Addr → Nat → Prop} (ar : Array Value) (kd vx vy sp a K aq VX VY SP PX PY : Int) (hsz : ar.size = 30) (h_0 : ar[0]? = some (.int .i64 kd)) (h_8 : ar[8]? = some (.int .i64 vx)) (h_9 : ar[9]? = some (.int .i64 vy)) (h_10 : ar[10]? = some (.int .i64 sp)) (h_12 : ar[12]? = some (.int .i64 a)) (bid bx b_y bvx bvy ban bsp bde bk br : Int) (bao : Option Addr) (bn bq : Nat) (bf : Cs) (jid ja jb jax jay jtx jty jln : Int) (w : World) (hK : kd % 8 = K) (hA : a % 16 = aq)
  (hKc : K = 4 ∨ K = 5) (ivx : I64 vx) (ivy : I64 vy) (isp : I64 sp) (hVX : bringF vx (negF 858993459200) 858993459200 = VX) (hVY : bringF vy (negF 858993459200) 858993459200 = VY) (hSP : bringF sp (-858993459200) 858993459200 = SP) (hPX : bringF vx (negF 214748364800) 214748364800 = PX) (hPY : bringF vy (negF 214748364800) 214748364800 = PY)
  (HBo : ∀ v, Made w.heap.size w v → Calls Tryz.prog 48 #[.agg ar] v fun e u => ∃ ao bc, e = .returned (bodyV bid bx b_y bvx bvy ban bsp bde bk br (.slice ao bn bc)) ∧ Sl u ao bn bf ∧ Q ao bc ∧ Made v.heap.size v u ∧ (0 < bn → ∀ b off s, ao = some ⟨b, off, s⟩ → b < w.heap.size ∨ v.heap.size ≤ b))
  (HJo : ∀ v, Calls Tryz.prog 44 #[.agg ar] v fun e u => e = .returned (.agg #[.int .i64 jid, .int .i64 ja, .int .i64 jb, .int .i64 jax, .int .i64 jay, .int .i64 jtx, .int .i64 jty, .int .i64 jln]) ∧ Made v.heap.size v u) :
  Calls Tryz.prog 69 #[.agg ar] w fun e v => Ans1 Q w K aq VX VY SP PX PY ⟨jid, ja, jb, jax, jay, jtx, jty, jln⟩ ⟨bid, bx, b_y, bvx, bvy, ban, bsp, bde, bk, br, bao, bn, bq, bf⟩ e v := by
 have HSZ := hid hsz
 have H0 := hid (And.intro h_0 (And.intro h_8 (And.intro h_9 (And.intro h_10 h_12))))
 have HBr := hid (And.intro hVX (And.intro hVY (And.intro hSP (And.intro hPX hPY))))
 have HIn := hid (And.intro ivx (And.intro ivy isp))
 clear hsz h_0 h_8 h_9 h_10 h_12 hVX hVY hSP hPX hPY ivx ivy isp
 have HBo := hid HBo
 have HJo := hid HJo
 have aK := (and7 kd).trans hK
 have aA := (and15 a).trans hA
 clear hK hA
 obtain ⟨W, eW⟩ : ∃ W, W = (w.alloc (.cells ar 37)).alloc (.cells #[.int .i64 0, .int .i64 0, .int .i64 0, .int .i64 0, .int .i64 0, .int .i64 0, .int .i64 0, .int .i64 0, .int .i64 0, .int .i64 0, .int .i64 0, .int .i64 0, .int .i64 0, .int .i64 0, .slice none 0 0] 49) := ⟨_, rfl⟩
 have KW : Hid (Made w.heap.size w W) := by unfold Hid; rw [eW]; exact ((Made.rfl_ _ _).cells (Nat.le_refl _) _ _).cells (by simp) _ _
 have HD : Hid (Has W w.heap.size 37 ar) := by unfold Hid; rw [eW]; exact (has_new _ _ _).more _
 have HR : Hid (Has W (w.heap.size + 1) 49 #[.int .i64 0, .int .i64 0, .int .i64 0, .int .i64 0, .int .i64 0, .int .i64 0, .int .i64 0, .int .i64 0, .int .i64 0, .int .i64 0, .int .i64 0, .int .i64 0, .int .i64 0, .int .i64 0, .slice none 0 0]) := by unfold Hid; rw [eW]; exact has_nxt' _ _ _ _
 obtain ⟨g1, eg1⟩ : ∃ g, w.heap.size = g := ⟨_, rfl⟩
 obtain ⟨g2, eg2⟩ : ∃ g, g1 + 1 = g := ⟨_, rfl⟩
 have hw1 : w.heap.size ≤ g1 := Nat.le_of_eq eg1
 have HG12 : Hid (w.heap.size = g1 ∧ g1 + 1 = g2) := ⟨eg1, eg2⟩
 rw [eg1] at HD
 rw [eg1, eg2] at HR
 go_enter Tryz.func69, Tryz.ntmps69
 go_upto_region 1 with fail
 rw [← eW]
 clear eW
 try rw [eg1]
 try rw [eg2]
 clear eg1 eg2
 have ld : g1 < W.heap.size := HD.out.here
 go_cut [3, 4] (fun s3 s4 wx => ∃ (ao : Option Addr) (bc g3 g4 : Nat), s3 = .pointer (some ⟨g3, 0, none⟩) ∧ s4 = .pointer (some ⟨g4, 0, none⟩) ∧ Hid (Made w.heap.size w wx ∧ Has wx g1 37 ar ∧ Has wx g2 49 #[.int .i64 0, .int .i64 0, .int .i64 0, .int .i64 0, .int .i64 0, .int .i64 0, .int .i64 0, .int .i64 0, .int .i64 0, .int .i64 0, .int .i64 0, .int .i64 0, .int .i64 0, .int .i64 0, .slice none 0 0] ∧ Has wx g3 35 #[.int .i64 bid, .int .i64 bx, .int .i64 b_y, .int .i64 bvx, .int .i64 bvy, .int .i64 ban, .int .i64 bsp, .int .i64 bde, .int .i64 bk, .int .i64 br, .slice ao bn bc] ∧ Has wx g4 102 #[.int .i64 jid, .int .i64 ja, .int .i64 jb, .int .i64 jax, .int .i64 jay, .int .i64 jtx, .int .i64 jty, .int .i64 jln] ∧ Sl wx ao bn bf ∧ Q ao bc ∧ (0 < bn → ∀ b off s, ao = some ⟨b, off, s⟩ → ¬ b = g2)))
 case first =>
  rename_i JJ KK hJJ hKK
  have HJJ := hid hJJ
  have HKK := hid hKK
  go_wp2_with fail
  refine MI.reg_mk (alD Q w.heap.size (fun ao bc => bodyV bid bx b_y bvx bvy ban bsp bde bk br (.slice ao bn bc)) bn bf) 6 [0, 2, 1, 3, 4, 5] [0, 2, 3] [1, 4, 5] [] (fun _ => []) (val := valD) (by kernel_rfl) (by kernel_rfl) (fun p hp => absurd hp (by simp)) ?_
  refine MI.can_class (rest := [1, 3, 4, 5]) [0, 2] [] 69 (alD_lasts _ _ _ _ _) (MI.any_class _) (by kernel_rfl) rfl (by kernel_rfl) (by kernel_rfl) ?_
  apply Exists.intro
  refine ⟨?q1, ?q2⟩
  case q1 =>
   intro Ty hT fw hf _
   change wpQuiet _ _ _ _ [_, _] _
   refine wpQuiet_load rfl 37 (.tmp 1) rfl g1 rfl ar 37 _ (Class.has hf HD.out) Tryz.underlying37 rfl (by rw [HSZ.out]; kernel_rfl) ?_
   simp only [Act.put, List.setIfInBounds_toArray, List.set_cons_succ, List.set_cons_zero]
   refine wpQuiet_load rfl 37 (.tmp 1) rfl g1 rfl ar 37 _ (Class.has hf HD.out) Tryz.underlying37 rfl (by rw [HSZ.out]; kernel_rfl) ?_
   simp only [Act.put, List.setIfInBounds_toArray, List.set_cons_succ, List.set_cons_zero]
   exact wpQuiet_nil rfl
  refine MI.can_mk 1 6 _ rfl rfl rfl rfl ?m1 fun q1 e1 => ?n1
  case m1 =>
   intro G' u _ hu
   rw [show (execOp _ _).run Tryz.prog u = .ok (.enter 48 #[.agg ar]) u by kernel_rfl]
   show Calls _ _ _ _ _
   refine (HBo.out u (KW.out.then_ (hu.1.low KW.out.1.size))).mono ?_
   rintro e v ⟨ao, bc, rfl, h1, h2, h3, h4⟩
   refine ⟨u.heap.size, ⟨v.heap.size, bodyV bid bx b_y bvx bvy ban bsp bde bk br (.slice ao bn bc), []⟩, rfl, hu.next (alD_lasts _ _ _ _ _) h3 (Nat.le_refl _) h3.1.size (Nat.le_refl _) ⟨fun _ => ⟨ao, bc, rfl, h1, h2, fun hn b off s e => ?_⟩, fun h => absurd h (by omega), fun h => absurd h (by omega)⟩⟩
   rcases h4 hn b off s e with h | h
   ·exact .inl h
   ·refine .inr ⟨h, ?_⟩
    obtain ⟨b', off', e', hp⟩ := h1 hn
    rw [e] at e'
    cases e'
    exact World.block_lt_of_cell? _ _ (hp 0 hn).1
  rw [show valD 1 q1 e1 = e1.v from rfl]
  simp only [Act.put, List.setIfInBounds_toArray, List.set_cons_succ, List.set_cons_zero]
  refine MI.can_class (rest := [4, 5]) [3] [] 69 (alD_lasts _ _ _ _ _) (MI.any_class _) (by kernel_rfl) rfl (by kernel_rfl) (by kernel_rfl) ?_
  apply Exists.intro
  refine ⟨?q3, ?q4⟩
  case q3 =>
   intro Ty hT fw hf _
   change wpQuiet _ _ _ _ [_] _
   repeat (go_big_quiet_step ((go_at_call 44; exact hf.made (HJo.out _))))
   exact wpQuiet_nil rfl
  refine MI.can_mk 4 3 _ rfl rfl rfl rfl ?m4 fun g3 f3 => ?n4
  case m4 =>
   intro G' u _ hu
   rw [show (execOp _ _).run Tryz.prog u = .ok (.value (.pointer (some ⟨u.heap.size, 0, none⟩))) (u.alloc (.cells #[.int .i64 0, .int .i64 0, .int .i64 0, .int .i64 0, .int .i64 0, .int .i64 0, .int .i64 0, .int .i64 0, .int .i64 0, .int .i64 0, .slice none 0 0] 35)) by kernel_rfl]
   exact ⟨u.heap.size, ⟨u.heap.size + 1, .bool false, []⟩, rfl, hu.next (alD_lasts _ _ _ _ _) ((Made.rfl_ _ _).cells (Nat.le_refl _) _ _) (Nat.le_refl _) (by simp) (by simp) ⟨fun h => absurd h (by omega), fun _ => ⟨has_new _ _ _, rfl⟩, fun h => absurd h (by omega)⟩⟩
  rw [show valD 4 g3 f3 = .pointer (some ⟨g3, 0, none⟩) from rfl]
  simp only [Act.put, List.setIfInBounds_toArray, List.set_cons_succ, List.set_cons_zero]
  refine MI.can_mk 5 4 _ rfl rfl rfl rfl ?m5 fun g4 f4 => ?n5
  case m5 =>
   intro G' u _ hu
   rw [show (execOp _ _).run Tryz.prog u = .ok (.value (.pointer (some ⟨u.heap.size, 0, none⟩))) (u.alloc (.cells #[.int .i64 0, .int .i64 0, .int .i64 0, .int .i64 0, .int .i64 0, .int .i64 0, .int .i64 0, .int .i64 0] 102)) by kernel_rfl]
   exact ⟨u.heap.size, ⟨u.heap.size + 1, .bool false, []⟩, rfl, hu.next (alD_lasts _ _ _ _ _) ((Made.rfl_ _ _).cells (Nat.le_refl _) _ _) (Nat.le_refl _) (by simp) (by simp) ⟨fun h => absurd h (by omega), fun h => absurd h (by omega), fun _ => ⟨has_new _ _ _, rfl⟩⟩⟩
  rw [show valD 5 g4 f4 = .pointer (some ⟨g4, 0, none⟩) from rfl]
  simp only [Act.put, List.setIfInBounds_toArray, List.set_cons_succ, List.set_cons_zero]
  intro w4 hu
  have k4 := hu.1
  have t1 : (MI.upd (MI.upd (MI.upd (fun _ => none) 1 (q1, e1)) 4 (g3, f3)) 5 (g4, f4)) 1 = some (q1, e1) := by unfold MI.upd; simp
  have t4 : (MI.upd (MI.upd (MI.upd (fun _ => none) 1 (q1, e1)) 4 (g3, f3)) 5 (g4, f4)) 4 = some (g3, f3) := by unfold MI.upd; simp
  have t5 : (MI.upd (MI.upd (MI.upd (fun _ => none) 1 (q1, e1)) 4 (g3, f3)) 5 (g4, f4)) 5 = some (g4, f4) := by unfold MI.upd; simp
  obtain ⟨l1, m1, h1, a1⟩ := hu.2.1 1 _ t1
  obtain ⟨l4, m4, h4, a4⟩ := hu.2.1 4 _ t4
  obtain ⟨l5, m5, h5, a5⟩ := hu.2.1 5 _ t5
  obtain ⟨ao, bc, ev, hsl, hok, hwh⟩ := a1.1 rfl
  obtain ⟨hg3, hf3⟩ := a4.2.1 rfl
  obtain ⟨hg4, hf4⟩ := a5.2.2 rfl
  simp only [] at ev hsl hok hwh hg3 hf3 hg4 hf4 l1 m1 h1 l4 l5
  have hap : ¬ g3 = g4 := by
   rcases hu.2.2 4 5 _ _ t4 t5 (by omega) with h | h
   ·simp only [hf3] at h; omega
   ·simp only [hf4] at h; omega
  have hx3 : ∀ b, q1 ≤ b → b < e1.hi → ¬ b = g3 := fun b hb1 hb2 e => by
   rcases hu.2.2 1 4 _ _ t1 t4 (by omega) with h | h
   ·simp only [] at h; omega
   ·simp only [hf3] at h; omega
  have hx4 : ∀ b, q1 ≤ b → b < e1.hi → ¬ b = g4 := fun b hb1 hb2 e => by
   rcases hu.2.2 1 5 _ _ t1 t5 (by omega) with h | h
   ·simp only [] at h; omega
   ·simp only [hf4] at h; omega
  have hls : w.heap.size < g2 ∧ g2 < W.heap.size := ⟨by have := HG12.out; omega, HR.out.here⟩
  have HOff : Hid (0 < bn → ∀ b off s, ao = some ⟨b, off, s⟩ → ¬ b = g2 ∧ ¬ b = g3 ∧ ¬ b = g4) := fun hn b off s e => by
   rcases hwh hn b off s e with h | ⟨h, h'⟩
   ·omega
   ·exact ⟨by omega, hx3 b h h', hx4 b h h'⟩
  have HSl := hid hsl; have HOk := hid hok; have HG3 := hid hg3; have HG4 := hid hg4
  have HLo := hid (And.intro l4 l5)
  have K4 := hid (KW.out.then_ (k4.low KW.out.1.size))
  have HD4 := hid (HD.out.stays k4 ld)
  have HR4 := hid (HR.out.stays k4 HR.out.here)
  have hr2 : ¬ g2 = g3 ∧ ¬ g2 = g4 ∧ ¬ g1 = g3 ∧ ¬ g1 = g4 := by have h1 := HR.out.here; have h2 := ld; have h3 := HLo.out; omega
  have HKW := hid KW.out.1.size
  rw [ev]
  clear hu a1 a4 a5 t1 t4 t5 hf3 hf4 ev hsl hok hwh hg3 hg4 l1 m1 h1 l4 m4 h4 l5 m5 h5 k4 ld HD HR KW hx3 hx4 hls
  simp only [List.drop_succ_cons, List.drop_zero]
  have y_0 := HG3.out.at_ 0
  have y_1 := HG3.out.at_ 1
  have y_2 := HG3.out.at_ 2
  have y_3 := HG3.out.at_ 3
  have y_4 := HG3.out.at_ 4
  have y_5 := HG3.out.at_ 5
  have y_6 := HG3.out.at_ 6
  have y_7 := HG3.out.at_ 7
  have y_8 := HG3.out.at_ 8
  have y_9 := HG3.out.at_ 9
  have y_10 := HG3.out.at_ 10
  simp at y_0 y_1 y_2 y_3 y_4 y_5 y_6 y_7 y_8 y_9 y_10
  have lg3 : g3 < w4.heap.size := HG3.out.here
  have fg3 : ∀ i, w4.frozen? ⟨g3, i, none⟩ = false := HG3.out.free
  have x_0 := HG4.out.at_ 0
  have x_1 := HG4.out.at_ 1
  have x_2 := HG4.out.at_ 2
  have x_3 := HG4.out.at_ 3
  have x_4 := HG4.out.at_ 4
  have x_5 := HG4.out.at_ 5
  have x_6 := HG4.out.at_ 6
  have x_7 := HG4.out.at_ 7
  simp at x_0 x_1 x_2 x_3 x_4 x_5 x_6 x_7
  have lg4 : g4 < w4.heap.size := HG4.out.here
  have fg4 : ∀ i, w4.frozen? ⟨g4, i, none⟩ = false := HG4.out.free
  obtain ⟨W5, eW5⟩ : ∃ V, V = (((((((((((((((((((w4).setCell ⟨g3, 0, none⟩ (.int .i64 bid)).setCell ⟨g3, 1, none⟩ (.int .i64 bx)).setCell ⟨g3, 2, none⟩ (.int .i64 b_y)).setCell ⟨g3, 3, none⟩ (.int .i64 bvx)).setCell ⟨g3, 4, none⟩ (.int .i64 bvy)).setCell ⟨g3, 5, none⟩ (.int .i64 ban)).setCell ⟨g3, 6, none⟩ (.int .i64 bsp)).setCell ⟨g3, 7, none⟩ (.int .i64 bde)).setCell ⟨g3, 8, none⟩ (.int .i64 bk)).setCell ⟨g3, 9, none⟩ (.int .i64 br)).setCell ⟨g3, 10, none⟩ (.slice ao bn bc)).setCell ⟨g4, 0, none⟩ (.int .i64 jid)).setCell ⟨g4, 1, none⟩ (.int .i64 ja)).setCell ⟨g4, 2, none⟩ (.int .i64 jb)).setCell ⟨g4, 3, none⟩ (.int .i64 jax)).setCell ⟨g4, 4, none⟩ (.int .i64 jay)).setCell ⟨g4, 5, none⟩ (.int .i64 jtx)).setCell ⟨g4, 6, none⟩ (.int .i64 jty)).setCell ⟨g4, 7, none⟩ (.int .i64 jln) := ⟨_, rfl⟩
  have k5 : But (fun b => b = g3 ∨ b = g4) w4 W5 := by rw [eW5]; exact ((((((((((((((((((((But.rfl_ (fun b => b = g3 ∨ b = g4) w4).put (p := ⟨g3, 0, none⟩) (.inl (.inl rfl)) _).put (p := ⟨g3, 1, none⟩) (.inl (.inl rfl)) _).put (p := ⟨g3, 2, none⟩) (.inl (.inl rfl)) _).put (p := ⟨g3, 3, none⟩) (.inl (.inl rfl)) _).put (p := ⟨g3, 4, none⟩) (.inl (.inl rfl)) _).put (p := ⟨g3, 5, none⟩) (.inl (.inl rfl)) _).put (p := ⟨g3, 6, none⟩) (.inl (.inl rfl)) _).put (p := ⟨g3, 7, none⟩) (.inl (.inl rfl)) _).put (p := ⟨g3, 8, none⟩) (.inl (.inl rfl)) _).put (p := ⟨g3, 9, none⟩) (.inl (.inl rfl)) _).put (p := ⟨g3, 10, none⟩) (.inl (.inl rfl)) _).put (p := ⟨g4, 0, none⟩) (.inl (.inr rfl)) _).put (p := ⟨g4, 1, none⟩) (.inl (.inr rfl)) _).put (p := ⟨g4, 2, none⟩) (.inl (.inr rfl)) _).put (p := ⟨g4, 3, none⟩) (.inl (.inr rfl)) _).put (p := ⟨g4, 4, none⟩) (.inl (.inr rfl)) _).put (p := ⟨g4, 5, none⟩) (.inl (.inr rfl)) _).put (p := ⟨g4, 6, none⟩) (.inl (.inr rfl)) _).put (p := ⟨g4, 7, none⟩) (.inl (.inr rfl)) _)
  have HG5 : Hid (Has W5 g3 35 #[.int .i64 bid, .int .i64 bx, .int .i64 b_y, .int .i64 bvx, .int .i64 bvy, .int .i64 ban, .int .i64 bsp, .int .i64 bde, .int .i64 bk, .int .i64 br, .slice ao bn bc]) := by
   unfold Hid
   rw [eW5]
   have j0 := HG3.out.put11 (.int .i64 bid) (.int .i64 bx) (.int .i64 b_y) (.int .i64 bvx) (.int .i64 bvy) (.int .i64 ban) (.int .i64 bsp) (.int .i64 bde) (.int .i64 bk) (.int .i64 br) (.slice ao bn bc)
   exact ((((((((j0.other ⟨g4, 0, none⟩ hap _).other ⟨g4, 1, none⟩ hap _).other ⟨g4, 2, none⟩ hap _).other ⟨g4, 3, none⟩ hap _).other ⟨g4, 4, none⟩ hap _).other ⟨g4, 5, none⟩ hap _).other ⟨g4, 6, none⟩ hap _).other ⟨g4, 7, none⟩ hap _)
  have HX4 : Hid (Has ((((((((((((w4).setCell ⟨g3, 0, none⟩ (.int .i64 bid)).setCell ⟨g3, 1, none⟩ (.int .i64 bx)).setCell ⟨g3, 2, none⟩ (.int .i64 b_y)).setCell ⟨g3, 3, none⟩ (.int .i64 bvx)).setCell ⟨g3, 4, none⟩ (.int .i64 bvy)).setCell ⟨g3, 5, none⟩ (.int .i64 ban)).setCell ⟨g3, 6, none⟩ (.int .i64 bsp)).setCell ⟨g3, 7, none⟩ (.int .i64 bde)).setCell ⟨g3, 8, none⟩ (.int .i64 bk)).setCell ⟨g3, 9, none⟩ (.int .i64 br)).setCell ⟨g3, 10, none⟩ (.slice ao bn bc)) g4 102 #[.int .i64 0, .int .i64 0, .int .i64 0, .int .i64 0, .int .i64 0, .int .i64 0, .int .i64 0, .int .i64 0]) := (((((((((((HG4.out.other ⟨g3, 0, none⟩ (Ne.symm hap) _).other ⟨g3, 1, none⟩ (Ne.symm hap) _).other ⟨g3, 2, none⟩ (Ne.symm hap) _).other ⟨g3, 3, none⟩ (Ne.symm hap) _).other ⟨g3, 4, none⟩ (Ne.symm hap) _).other ⟨g3, 5, none⟩ (Ne.symm hap) _).other ⟨g3, 6, none⟩ (Ne.symm hap) _).other ⟨g3, 7, none⟩ (Ne.symm hap) _).other ⟨g3, 8, none⟩ (Ne.symm hap) _).other ⟨g3, 9, none⟩ (Ne.symm hap) _).other ⟨g3, 10, none⟩ (Ne.symm hap) _)
  have HJ5 : Hid (Has W5 g4 102 #[.int .i64 jid, .int .i64 ja, .int .i64 jb, .int .i64 jax, .int .i64 jay, .int .i64 jtx, .int .i64 jty, .int .i64 jln]) := by
   unfold Hid
   rw [eW5]
   exact ((((((((HX4.out.put 0 _).put 1 _).put 2 _).put 3 _).put 4 _).put 5 _).put 6 _).put 7 _)
  clear HX4
  go_wp2_with fail
  refine NoPanic.normal ?_
  rw [← eW5]
  refine HKK.out _ _ (Met.intro (HJJ.out _ _ ?_))
  (repeat apply Exists.intro)
  refine ⟨?rel, rfl⟩
  clear eW5 y_0 y_1 y_2 y_3 y_4 y_5 y_6 y_7 y_8 y_9 y_10 x_0 x_1 x_2 x_3 x_4 x_5 x_6 x_7 lg3 fg3 lg4 fg4
  refine ⟨ao, bc, g3, g4, rfl, rfl, But.made_ K4.out k5 K4.out.1.size (fun b hb => by have hb : b = g3 ∨ b = g4 := hb; have h := HLo.out; have h2 := HKW.out; omega), HD4.out.but k5 (by show ¬ (g1 = g3 ∨ g1 = g4); omega), HR4.out.but k5 (by show ¬ (g2 = g3 ∨ g2 = g4); omega), HG5.out, HJ5.out, fun hn => ?_, HOk.out, fun hn b off s e => (HOff.out hn b off s e).1⟩
  obtain ⟨b, off, e, hp⟩ := HSl.out hn
  have hx := HOff.out hn b off none e
  exact ⟨b, off, e, hp.but k5 (by show ¬ (b = g3 ∨ b = g4); omega)⟩
 case rest =>
  obtain ⟨ao, bc, g3, g4, rfl, rfl, HH⟩ := hcut
  have K4 := hid HH.out.1
  have HD4 := hid HH.out.2.1
  have HR4 := hid HH.out.2.2.1
  have HG4 := hid HH.out.2.2.2.1
  have HJ4 := hid HH.out.2.2.2.2.1
  have HS := hid (And.intro trivial HH.out.2.2.2.2.2)
  have d0 : wc.cell? ⟨g1, 0, none⟩ = some (.int .i64 kd) := by rw [HD4.out.at_]; exact H0.out.1
  have d8 : wc.cell? ⟨g1, 8, none⟩ = some (.int .i64 vx) := by rw [HD4.out.at_]; exact H0.out.2.1
  have d9 : wc.cell? ⟨g1, 9, none⟩ = some (.int .i64 vy) := by rw [HD4.out.at_]; exact H0.out.2.2.1
  have d10 : wc.cell? ⟨g1, 10, none⟩ = some (.int .i64 sp) := by rw [HD4.out.at_]; exact H0.out.2.2.2.1
  have d12 : wc.cell? ⟨g1, 12, none⟩ = some (.int .i64 a) := by rw [HD4.out.at_]; exact H0.out.2.2.2.2
  have ld : g1 < wc.heap.size := HD4.out.here
  clear HH HD HR KW HBo HJo
  have kS : But (fun b => b = g2) wc wc := But.rfl_ _ _
  have b0 := HR4.out.at_ 0
  have b1 := HR4.out.at_ 1
  have b2 := HR4.out.at_ 2
  have b3 := HR4.out.at_ 3
  have b4 := HR4.out.at_ 4
  have b5 := HR4.out.at_ 5
  have b6 := HR4.out.at_ 6
  have b7 := HR4.out.at_ 7
  have b8 := HR4.out.at_ 8
  have b9 := HR4.out.at_ 9
  have b10 := HR4.out.at_ 10
  have b11 := HR4.out.at_ 11
  have b12 := HR4.out.at_ 12
  have b13 := HR4.out.at_ 13
  have b14 := HR4.out.at_ 14
  simp at b0 b1 b2 b3 b4 b5 b6 b7 b8 b9 b10 b11 b12 b13 b14
  have l2 : g2 < wc.heap.size := HR4.out.here
  have fr2 : ∀ i, wc.frozen? ⟨g2, i, none⟩ = false := HR4.out.free
  have j0 := HJ4.out.at_ 0
  have j1 := HJ4.out.at_ 1
  have j2 := HJ4.out.at_ 2
  have j3 := HJ4.out.at_ 3
  have j4 := HJ4.out.at_ 4
  have j5 := HJ4.out.at_ 5
  have j6 := HJ4.out.at_ 6
  have j7 := HJ4.out.at_ 7
  simp at j0 j1 j2 j3 j4 j5 j6 j7
  have lj : g4 < wc.heap.size := HJ4.out.here
  by_cases k4 : K = 4
  ·subst k4
   go_upto_region 9 with fail
   go_wp2_with fail
   try refine NoPanic.normal ?_
   obtain ⟨W9, eW9⟩ : ∃ V, V = (((((((((((((((wc).setCell ⟨g2, 0, none⟩ (.int .i64 3)).setCell ⟨g2, 1, none⟩ (.int .i64 0)).setCell ⟨g2, 2, none⟩ (.int .i64 ja)).setCell ⟨g2, 3, none⟩ (.int .i64 jb)).setCell ⟨g2, 4, none⟩ (.int .i64 jax)).setCell ⟨g2, 5, none⟩ (.int .i64 jay)).setCell ⟨g2, 6, none⟩ (.int .i64 jtx)).setCell ⟨g2, 7, none⟩ (.int .i64 jty)).setCell ⟨g2, 8, none⟩ (.int .i64 0)).setCell ⟨g2, 9, none⟩ (.int .i64 0)).setCell ⟨g2, 10, none⟩ (.int .i64 0)).setCell ⟨g2, 11, none⟩ (.int .i64 jln)).setCell ⟨g2, 12, none⟩ (.int .i64 0)).setCell ⟨g2, 13, none⟩ (.int .i64 0)).setCell ⟨g2, 14, none⟩ (.slice none 0 0) := ⟨_, rfl⟩
   have k9 : But (fun b => b = g2) wc W9 := by rw [eW9]; exact (But.rfl_ (fun b => b = g2) _).put15 (.inl rfl) (.int .i64 3) (.int .i64 0) (.int .i64 ja) (.int .i64 jb) (.int .i64 jax) (.int .i64 jay) (.int .i64 jtx) (.int .i64 jty) (.int .i64 0) (.int .i64 0) (.int .i64 0) (.int .i64 jln) (.int .i64 0) (.int .i64 0) (.slice none 0 0)
   have HR9 : Has W9 g2 49 #[.int .i64 3, .int .i64 0, .int .i64 ja, .int .i64 jb, .int .i64 jax, .int .i64 jay, .int .i64 jtx, .int .i64 jty, .int .i64 0, .int .i64 0, .int .i64 0, .int .i64 jln, .int .i64 0, .int .i64 0, .slice none 0 0] := by rw [eW9]; exact HR4.out.put15 (.int .i64 3) (.int .i64 0) (.int .i64 ja) (.int .i64 jb) (.int .i64 jax) (.int .i64 jay) (.int .i64 jtx) (.int .i64 jty) (.int .i64 0) (.int .i64 0) (.int .i64 0) (.int .i64 jln) (.int .i64 0) (.int .i64 0) (.slice none 0 0)
   rw [← eW9]
   clear eW9 b0 b1 b2 b3 b4 b5 b6 b7 b8 b9 b10 b11 b12 b13 b14
   have q0 := HR9.at_ 0
   have q1 := HR9.at_ 1
   have q2 := HR9.at_ 2
   have q3 := HR9.at_ 3
   have q4 := HR9.at_ 4
   have q5 := HR9.at_ 5
   have q6 := HR9.at_ 6
   have q7 := HR9.at_ 7
   have q8 := HR9.at_ 8
   have q9 := HR9.at_ 9
   have q10 := HR9.at_ 10
   have q11 := HR9.at_ 11
   have q12 := HR9.at_ 12
   have q13 := HR9.at_ 13
   have q14 := HR9.at_ 14
   simp at q0 q1 q2 q3 q4 q5 q6 q7 q8 q9 q10 q11 q12 q13 q14
   refine bodyPost_ret (v := .agg #[.int .i64 3, .int .i64 0, .int .i64 ja, .int .i64 jb, .int .i64 jax, .int .i64 jay, .int .i64 jtx, .int .i64 jty, .int .i64 0, .int .i64 0, .int .i64 0, .int .i64 jln, .int .i64 0, .int .i64 0, .slice none 0 0]) (by simp [results, Tryz.results69, go_sem, q0, q1, q2, q3, q4, q5, q6, q7, q8, q9, q10, q11, q12, q13, q14]) rfl ⟨ao, bc, ?_, ?_, HS.out.2.2.1, But.made_ K4.out k9 K4.out.1.size (fun b hb => by have hb : b = g2 := hb; have h := HG12.out; omega)⟩
   ·rfl
   ·exact fun hn => absurd hn (Nat.lt_irrefl 0)
  by_cases k5 : K = 5
  ·subst k5
   go_upto_region 9 with fail
   go_wp2_with fail
   try refine NoPanic.normal ?_
   obtain ⟨W9, eW9⟩ : ∃ V, V = (((((((((((((((wc).setCell ⟨g2, 0, none⟩ (.int .i64 3)).setCell ⟨g2, 1, none⟩ (.int .i64 0)).setCell ⟨g2, 2, none⟩ (.int .i64 ja)).setCell ⟨g2, 3, none⟩ (.int .i64 jb)).setCell ⟨g2, 4, none⟩ (.int .i64 jax)).setCell ⟨g2, 5, none⟩ (.int .i64 jay)).setCell ⟨g2, 6, none⟩ (.int .i64 jtx)).setCell ⟨g2, 7, none⟩ (.int .i64 jty)).setCell ⟨g2, 8, none⟩ (.int .i64 0)).setCell ⟨g2, 9, none⟩ (.int .i64 0)).setCell ⟨g2, 10, none⟩ (.int .i64 0)).setCell ⟨g2, 11, none⟩ (.int .i64 jln)).setCell ⟨g2, 12, none⟩ (.int .i64 0)).setCell ⟨g2, 13, none⟩ (.int .i64 0)).setCell ⟨g2, 14, none⟩ (.slice none 0 0) := ⟨_, rfl⟩
   have k9 : But (fun b => b = g2) wc W9 := by rw [eW9]; exact (But.rfl_ (fun b => b = g2) _).put15 (.inl rfl) (.int .i64 3) (.int .i64 0) (.int .i64 ja) (.int .i64 jb) (.int .i64 jax) (.int .i64 jay) (.int .i64 jtx) (.int .i64 jty) (.int .i64 0) (.int .i64 0) (.int .i64 0) (.int .i64 jln) (.int .i64 0) (.int .i64 0) (.slice none 0 0)
   have HR9 : Has W9 g2 49 #[.int .i64 3, .int .i64 0, .int .i64 ja, .int .i64 jb, .int .i64 jax, .int .i64 jay, .int .i64 jtx, .int .i64 jty, .int .i64 0, .int .i64 0, .int .i64 0, .int .i64 jln, .int .i64 0, .int .i64 0, .slice none 0 0] := by rw [eW9]; exact HR4.out.put15 (.int .i64 3) (.int .i64 0) (.int .i64 ja) (.int .i64 jb) (.int .i64 jax) (.int .i64 jay) (.int .i64 jtx) (.int .i64 jty) (.int .i64 0) (.int .i64 0) (.int .i64 0) (.int .i64 jln) (.int .i64 0) (.int .i64 0) (.slice none 0 0)
   rw [← eW9]
   clear eW9 b0 b1 b2 b3 b4 b5 b6 b7 b8 b9 b10 b11 b12 b13 b14
   have q0 := HR9.at_ 0
   have q1 := HR9.at_ 1
   have q2 := HR9.at_ 2
   have q3 := HR9.at_ 3
   have q4 := HR9.at_ 4
   have q5 := HR9.at_ 5
   have q6 := HR9.at_ 6
   have q7 := HR9.at_ 7
   have q8 := HR9.at_ 8
   have q9 := HR9.at_ 9
   have q10 := HR9.at_ 10
   have q11 := HR9.at_ 11
   have q12 := HR9.at_ 12
   have q13 := HR9.at_ 13
   have q14 := HR9.at_ 14
   simp at q0 q1 q2 q3 q4 q5 q6 q7 q8 q9 q10 q11 q12 q13 q14
   refine bodyPost_ret (v := .agg #[.int .i64 3, .int .i64 0, .int .i64 ja, .int .i64 jb, .int .i64 jax, .int .i64 jay, .int .i64 jtx, .int .i64 jty, .int .i64 0, .int .i64 0, .int .i64 0, .int .i64 jln, .int .i64 0, .int .i64 0, .slice none 0 0]) (by simp [results, Tryz.results69, go_sem, q0, q1, q2, q3, q4, q5, q6, q7, q8, q9, q10, q11, q12, q13, q14]) rfl ⟨ao, bc, ?_, ?_, HS.out.2.2.1, But.made_ K4.out k9 K4.out.1.size (fun b hb => by have hb : b = g2 := hb; have h := HG12.out; omega)⟩
   ·rfl
   ·exact fun hn => absurd hn (Nat.lt_irrefl 0)
  omega
end Go.Proofs.YtgdcphmmehedoaaGreat.Fx