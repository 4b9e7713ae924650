/- OrMd OrMe OrM OtD -/
import Derived.Test.YtgdcphmmehedoaaGreatCb26
import Derived.Test.YtgdcphmmehedoaaGreatCb27
set_option maxRecDepth 100000
set_option maxHeartbeats 64000000
/- The statements' Order of a deed, some kinds. -/
namespace Go.Proofs.YtgdcphmmehedoaaGreat.Fx
open Go.ChangeShapes Go.WideShapes Go.ChangeAt Go.RowKit
set_option linter.unusedVariables false
theorem dorder_d {Q : Option Addr → Nat → Prop} (ar : Array Value) (kd vx vy sp a K aq VX VY SP PX PY : Int) (hsz : ar.size = 30) (h_0 : ar[0]? = some (.int .i64 kd)) (h_8 : ar[8]? = some (.int .i64 vx)) (h_9 : ar[9]? = some (.int .i64 vy)) (h_10 : ar[10]? = some (.int .i64 sp)) (h_12 : ar[12]? = some (.int .i64 a)) (bid bx b_y bvx bvy ban bsp bde bk br : Int) (bao : Option Addr) (bn bq : Nat) (bf : Cs) (jid ja jb jax jay jtx jty jln : Int) (w : World) (hK : kd % 8 = K) (hA : a % 16 = aq)
  (hKc : K = 6 ∨ K = 7) (ivx : I64 vx) (ivy : I64 vy) (isp : I64 sp) (hVX : bringF vx (negF 858993459200) 858993459200 = VX) (hVY : bringF vy (negF 858993459200) 858993459200 = VY) (hSP : bringF sp (-858993459200) 858993459200 = SP) (hPX : bringF vx (negF 214748364800) 214748364800 = PX) (hPY : bringF vy (negF 214748364800) 214748364800 = PY)
  (HBo : ∀ v, Made w.heap.size w v → Calls Tryz.prog 48 #[.agg ar] v fun e u => ∃ ao bc, e = .returned (bodyV bid bx b_y bvx bvy ban bsp bde bk br (.slice ao bn bc)) ∧ Sl u ao bn bf ∧ Q ao bc ∧ Made v.heap.size v u ∧ (0 < bn → ∀ b off s, ao = some ⟨b, off, s⟩ → b < w.heap.size ∨ v.heap.size ≤ b))
  (HJo : ∀ v, Calls Tryz.prog 44 #[.agg ar] v fun e u => e = .returned (.agg #[.int .i64 jid, .int .i64 ja, .int .i64 jb, .int .i64 jax, .int .i64 jay, .int .i64 jtx, .int .i64 jty, .int .i64 jln]) ∧ Made v.heap.size v u) :
  Calls Tryz.prog 69 #[.agg ar] w fun e v => Ans1 Q w K aq VX VY SP PX PY ⟨jid, ja, jb, jax, jay, jtx, jty, jln⟩ ⟨bid, bx, b_y, bvx, bvy, ban, bsp, bde, bk, br, bao, bn, bq, bf⟩ e v := by
 have HSZ := hid hsz
 have H0 := hid (And.intro h_0 (And.intro h_8 (And.intro h_9 (And.intro h_10 h_12))))
 have HBr := hid (And.intro hVX (And.intro hVY (And.intro hSP (And.intro hPX hPY))))
 have HIn := hid (And.intro ivx (And.intro ivy isp))
 clear hsz h_0 h_8 h_9 h_10 h_12 hVX hVY hSP hPX hPY ivx ivy isp
 have HBo := hid HBo
 have HJo := hid HJo
 have aK := (and7 kd).trans hK
 have aA := (and15 a).trans hA
 clear hK hA
 obtain ⟨W, eW⟩ : ∃ W, W = (w.alloc (.cells ar 37)).alloc (.cells #[.int .i64 0, .int .i64 0, .int .i64 0, .int .i64 0, .int .i64 0, .int .i64 0, .int .i64 0, .int .i64 0, .int .i64 0, .int .i64 0, .int .i64 0, .int .i64 0, .int .i64 0, .int .i64 0, .slice none 0 0] 49) := ⟨_, rfl⟩
 have KW : Hid (Made w.heap.size w W) := by unfold Hid; rw [eW]; exact ((Made.rfl_ _ _).cells (Nat.le_refl _) _ _).cells (by simp) _ _
 have HD : Hid (Has W w.heap.size 37 ar) := by unfold Hid; rw [eW]; exact (has_new _ _ _).more _
 have HR : Hid (Has W (w.heap.size + 1) 49 #[.int .i64 0, .int .i64 0, .int .i64 0, .int .i64 0, .int .i64 0, .int .i64 0, .int .i64 0, .int .i64 0, .int .i64 0, .int .i64 0, .int .i64 0, .int .i64 0, .int .i64 0, .int .i64 0, .slice none 0 0]) := by unfold Hid; rw [eW]; exact has_nxt' _ _ _ _
 obtain ⟨g1, eg1⟩ : ∃ g, w.heap.size = g := ⟨_, rfl⟩
 obtain ⟨g2, eg2⟩ : ∃ g, g1 + 1 = g := ⟨_, rfl⟩
 have hw1 : w.heap.size ≤ g1 := Nat.le_of_eq eg1
 have HG12 : Hid (w.heap.size = g1 ∧ g1 + 1 = g2) := ⟨eg1, eg2⟩
 rw [eg1] at HD
 rw [eg1, eg2] at HR
 go_enter Tryz.func69, Tryz.ntmps69
 go_upto_region 1 with fail
 rw [← eW]
 clear eW
 try rw [eg1]
 try rw [eg2]
 clear eg1 eg2
 have ld : g1 < W.heap.size := HD.out.here
 go_cut [3, 4] (fun s3 s4 wx => ∃ (ao : Option Addr) (bc g3 g4 : Nat), s3 = .pointer (some ⟨g3, 0, none⟩) ∧ s4 = .pointer (some ⟨g4, 0, none⟩) ∧ Hid (Made w.heap.size w wx ∧ Has wx g1 37 ar ∧ Has wx g2 49 #[.int .i64 0, .int .i64 0, .int .i64 0, .int .i64 0, .int .i64 0, .int .i64 0, .int .i64 0, .int .i64 0, .int .i64 0, .int .i64 0, .int .i64 0, .int .i64 0, .int .i64 0, .int .i64 0, .slice none 0 0] ∧ Has wx g3 35 #[.int .i64 bid, .int .i64 bx, .int .i64 b_y, .int .i64 bvx, .int .i64 bvy, .int .i64 ban, .int .i64 bsp, .int .i64 bde, .int .i64 bk, .int .i64 br, .slice ao bn bc] ∧ Has wx g4 102 #[.int .i64 jid, .int .i64 ja, .int .i64 jb, .int .i64 jax, .int .i64 jay, .int .i64 jtx, .int .i64 jty, .int .i64 jln] ∧ Sl wx ao bn bf ∧ Q ao bc ∧ (0 < bn → ∀ b off s, ao = some ⟨b, off, s⟩ → ¬ b = g2)))
 case first =>
  rename_i JJ KK hJJ hKK
  have HJJ := hid hJJ
  have HKK := hid hKK
  go_wp2_with fail
  refine MI.reg_mk (alD Q w.heap.size (fun ao bc => bodyV bid bx b_y bvx bvy ban bsp bde bk br (.slice ao bn bc)) bn bf) 6 [0, 2, 1, 3, 4, 5] [0, 2, 3] [1, 4, 5] [] (fun _ => []) (val := valD) (by kernel_rfl) (by kernel_rfl) (fun p hp => absurd hp (by simp)) ?_
  refine MI.can_class (rest := [1, 3, 4, 5]) [0, 2] [] 69 (alD_lasts _ _ _ _ _) (MI.any_class _) (by kernel_rfl) rfl (by kernel_rfl) (by kernel_rfl) ?_
  apply Exists.intro
  refine ⟨?q1, ?q2⟩
  case q1 =>
   intro Ty hT fw hf _
   change wpQuiet _ _ _ _ [_, _] _
   refine wpQuiet_load rfl 37 (.tmp 1) rfl g1 rfl ar 37 _ (Class.has hf HD.out) Tryz.underlying37 rfl (by rw [HSZ.out]; kernel_rfl) ?_
   simp only [Act.put, List.setIfInBounds_toArray, List.set_cons_succ, List.set_cons_zero]
   refine wpQuiet_load rfl 37 (.tmp 1) rfl g1 rfl ar 37 _ (Class.has hf HD.out) Tryz.underlying37 rfl (by rw [HSZ.out]; kernel_rfl) ?_
   simp only [Act.put, List.setIfInBounds_toArray, List.set_cons_succ, List.set_cons_zero]
   exact wpQuiet_nil rfl
  refine MI.can_mk 1 6 _ rfl rfl rfl rfl ?m1 fun q1 e1 => ?n1
  case m1 =>
   intro G' u _ hu
   rw [show (execOp _ _).run Tryz.prog u = .ok (.enter 48 #[.agg ar]) u by kernel_rfl]
   show Calls _ _ _ _ _
   refine (HBo.out u (KW.out.then_ (hu.1.low KW.out.1.size))).mono ?_
   rintro e v ⟨ao, bc, rfl, h1, h2, h3, h4⟩
   refine ⟨u.heap.size, ⟨v.heap.size, bodyV bid bx b_y bvx bvy ban bsp bde bk br (.slice ao bn bc), []⟩, rfl, hu.next (alD_lasts _ _ _ _ _) h3 (Nat.le_refl _) h3.1.size (Nat.le_refl _) ⟨fun _ => ⟨ao, bc, rfl, h1, h2, fun hn b off s e => ?_⟩, fun h => absurd h (by omega), fun h => absurd h (by omega)⟩⟩
   rcases h4 hn b off s e with h | h
   ·exact .inl h
   ·refine .inr ⟨h, ?_⟩
    obtain ⟨b', off', e', hp⟩ := h1 hn
    rw [e] at e'
    cases e'
    exact World.block_lt_of_cell? _ _ (hp 0 hn).1
  rw [show valD 1 q1 e1 = e1.v from rfl]
  simp only [Act.put, List.setIfInBounds_toArray, List.set_cons_succ, List.set_cons_zero]
  refine MI.can_class (rest := [4, 5]) [3] [] 69 (alD_lasts _ _ _ _ _) (MI.any_class _) (by kernel_rfl) rfl (by kernel_rfl) (by kernel_rfl) ?_
  apply Exists.intro
  refine ⟨?q3, ?q4⟩
  case q3 =>
   intro Ty hT fw hf _
   change wpQuiet _ _ _ _ [_] _
   repeat (go_big_quiet_step ((go_at_call 44; exact hf.made (HJo.out _))))
   exact wpQuiet_nil rfl
  refine MI.can_mk 4 3 _ rfl rfl rfl rfl ?m4 fun g3 f3 => ?n4
  case m4 =>
   intro G' u _ hu
   rw [show (execOp _ _).run Tryz.prog u = .ok (.value (.pointer (some ⟨u.heap.size, 0, none⟩))) (u.alloc (.cells #[.int .i64 0, .int .i64 0, .int .i64 0, .int .i64 0, .int .i64 0, .int .i64 0, .int .i64 0, .int .i64 0, .int .i64 0, .int .i64 0, .slice none 0 0] 35)) by kernel_rfl]
   exact ⟨u.heap.size, ⟨u.heap.size + 1, .bool false, []⟩, rfl, hu.next (alD_lasts _ _ _ _ _) ((Made.rfl_ _ _).cells (Nat.le_refl _) _ _) (Nat.le_refl _) (by simp) (by simp) ⟨fun h => absurd h (by omega), fun _ => ⟨has_new _ _ _, rfl⟩, fun h => absurd h (by omega)⟩⟩
  rw [show valD 4 g3 f3 = .pointer (some ⟨g3, 0, none⟩) from rfl]
  simp only [Act.put, List.setIfInBounds_toArray, List.set_cons_succ, List.set_cons_zero]
  refine MI.can_mk 5 4 _ rfl rfl rfl rfl ?m5 fun g4 f4 => ?n5
  case m5 =>
   intro G' u _ hu
   rw [show (execOp _ _).run Tryz.prog u = .ok (.value (.pointer (some ⟨u.heap.size, 0, none⟩))) (u.alloc (.cells #[.int .i64 0, .int .i64 0, .int .i64 0, .int .i64 0, .int .i64 0, .int .i64 0, .int .i64 0, .int .i64 0] 102)) by kernel_rfl]
   exact ⟨u.heap.size, ⟨u.heap.size + 1, .bool false, []⟩, rfl, hu.next (alD_lasts _ _ _ _ _) ((Made.rfl_ _ _).cells (Nat.le_refl _) _ _) (Nat.le_refl _) (by simp) (by simp) ⟨fun h => absurd h (by omega), fun h => absurd h (by omega), fun _ => ⟨has_new _ _ _, rfl⟩⟩⟩
  rw [show valD 5 g4 f4 = .pointer (some ⟨g4, 0, none⟩) from rfl]
  simp only [Act.put, List.setIfInBounds_toArray, List.set_cons_succ, List.set_cons_zero]
  intro w4 hu
  have k4 := hu.1
  have t1 : (MI.upd (MI.upd (MI.upd (fun _ => none) 1 (q1, e1)) 4 (g3, f3)) 5 (g4, f4)) 1 = some (q1, e1) := by unfold MI.upd; simp
  have t4 : (MI.upd (MI.upd (MI.upd (fun _ => none) 1 (q1, e1)) 4 (g3, f3)) 5 (g4, f4)) 4 = some (g3, f3) := by unfold MI.upd; simp
  have t5 : (MI.upd (MI.upd (MI.upd (fun _ => none) 1 (q1, e1)) 4 (g3, f3)) 5 (g4, f4)) 5 = some (g4, f4) := by unfold MI.upd; simp
  obtain ⟨l1, m1, h1, a1⟩ := hu.2.1 1 _ t1
  obtain ⟨l4, m4, h4, a4⟩ := hu.2.1 4 _ t4
  obtain ⟨l5, m5, h5, a5⟩ := hu.2.1 5 _ t5
  obtain ⟨ao, bc, ev, hsl, hok, hwh⟩ := a1.1 rfl
  obtain ⟨hg3, hf3⟩ := a4.2.1 rfl
  obtain ⟨hg4, hf4⟩ := a5.2.2 rfl
  simp only [] at ev hsl hok hwh hg3 hf3 hg4 hf4 l1 m1 h1 l4 l5
  have hap : ¬ g3 = g4 := by
   rcases hu.2.2 4 5 _ _ t4 t5 (by omega) with h | h
   ·simp only [hf3] at h; omega
   ·simp only [hf4] at h; omega
  have hx3 : ∀ b, q1 ≤ b → b < e1.hi → ¬ b = g3 := fun b hb1 hb2 e => by
   rcases hu.2.2 1 4 _ _ t1 t4 (by omega) with h | h
   ·simp only [] at h; omega
   ·simp only [hf3] at h; omega
  have hx4 : ∀ b, q1 ≤ b → b < e1.hi → ¬ b = g4 := fun b hb1 hb2 e => by
   rcases hu.2.2 1 5 _ _ t1 t5 (by omega) with h | h
   ·simp only [] at h; omega
   ·simp only [hf4] at h; omega
  have hls : w.heap.size < g2 ∧ g2 < W.heap.size := ⟨by have := HG12.out; omega, HR.out.here⟩
  have HOff : Hid (0 < bn → ∀ b off s, ao = some ⟨b, off, s⟩ → ¬ b = g2 ∧ ¬ b = g3 ∧ ¬ b = g4) := fun hn b off s e => by
   rcases hwh hn b off s e with h | ⟨h, h'⟩
   ·omega
   ·exact ⟨by omega, hx3 b h h', hx4 b h h'⟩
  have HSl := hid hsl; have HOk := hid hok; have HG3 := hid hg3; have HG4 := hid hg4
  have HLo := hid (And.intro l4 l5)
  have K4 := hid (KW.out.then_ (k4.low KW.out.1.size))
  have HD4 := hid (HD.out.stays k4 ld)
  have HR4 := hid (HR.out.stays k4 HR.out.here)
  have hr2 : ¬ g2 = g3 ∧ ¬ g2 = g4 ∧ ¬ g1 = g3 ∧ ¬ g1 = g4 := by have h1 := HR.out.here; have h2 := ld; have h3 := HLo.out; omega
  have HKW := hid KW.out.1.size
  rw [ev]
  clear hu a1 a4 a5 t1 t4 t5 hf3 hf4 ev hsl hok hwh hg3 hg4 l1 m1 h1 l4 m4 h4 l5 m5 h5 k4 ld HD HR KW hx3 hx4 hls
  simp only [List.drop_succ_cons, List.drop_zero]
  have y_0 := HG3.out.at_ 0
  have y_1 := HG3.out.at_ 1
  have y_2 := HG3.out.at_ 2
  have y_3 := HG3.out.at_ 3
  have y_4 := HG3.out.at_ 4
  have y_5 := HG3.out.at_ 5
  have y_6 := HG3.out.at_ 6
  have y_7 := HG3.out.at_ 7
  have y_8 := HG3.out.at_ 8
  have y_9 := HG3.out.at_ 9
  have y_10 := HG3.out.at_ 10
  simp at y_0 y_1 y_2 y_3 y_4 y_5 y_6 y_7 y_8 y_9 y_10
  have lg3 : g3 < w4.heap.size := HG3.out.here
  have fg3 : ∀ i, w4.frozen? ⟨g3, i, none⟩ = false := HG3.out.free
  have x_0 := HG4.out.at_ 0
  have x_1 := HG4.out.at_ 1
  have x_2 := HG4.out.at_ 2
  have x_3 := HG4.out.at_ 3
  have x_4 := HG4.out.at_ 4
  have x_5 := HG4.out.at_ 5
  have x_6 := HG4.out.at_ 6
  have x_7 := HG4.out.at_ 7
  simp at x_0 x_1 x_2 x_3 x_4 x_5 x_6 x_7
  have lg4 : g4 < w4.heap.size := HG4.out.here
  have fg4 : ∀ i, w4.frozen? ⟨g4, i, none⟩ = false := HG4.out.free
  obtain ⟨W5, eW5⟩ : ∃ V, V = (((((((((((((((((((w4).setCell ⟨g3, 0, none⟩ (.int .i64 bid)).setCell ⟨g3, 1, none⟩ (.int .i64 bx)).setCell ⟨g3, 2, none⟩ (.int .i64 b_y)).setCell ⟨g3, 3, none⟩ (.int .i64 bvx)).setCell ⟨g3, 4, none⟩ (.int .i64 bvy)).setCell ⟨g3, 5, none⟩ (.int .i64 ban)).setCell ⟨g3, 6, none⟩ (.int .i64 bsp)).setCell ⟨g3, 7, none⟩ (.int .i64 bde)).setCell ⟨g3, 8, none⟩ (.int .i64 bk)).setCell ⟨g3, 9, none⟩ (.int .i64 br)).setCell ⟨g3, 10, none⟩ (.slice ao bn bc)).setCell ⟨g4, 0, none⟩ (.int .i64 jid)).setCell ⟨g4, 1, none⟩ (.int .i64 ja)).setCell ⟨g4, 2, none⟩ (.int .i64 jb)).setCell ⟨g4, 3, none⟩ (.int .i64 jax)).setCell ⟨g4, 4, none⟩ (.int .i64 jay)).setCell ⟨g4, 5, none⟩ (.int .i64 jtx)).setCell ⟨g4, 6, none⟩ (.int .i64 jty)).setCell ⟨g4, 7, none⟩ (.int .i64 jln) := ⟨_, rfl⟩
  have k5 : But (fun b => b = g3 ∨ b = g4) w4 W5 := by rw [eW5]; exact ((((((((((((((((((((But.rfl_ (fun b => b = g3 ∨ b = g4) w4).put (p := ⟨g3, 0, none⟩) (.inl (.inl rfl)) _).put (p := ⟨g3, 1, none⟩) (.inl (.inl rfl)) _).put (p := ⟨g3, 2, none⟩) (.inl (.inl rfl)) _).put (p := ⟨g3, 3, none⟩) (.inl (.inl rfl)) _).put (p := ⟨g3, 4, none⟩) (.inl (.inl rfl)) _).put (p := ⟨g3, 5, none⟩) (.inl (.inl rfl)) _).put (p := ⟨g3, 6, none⟩) (.inl (.inl rfl)) _).put (p := ⟨g3, 7, none⟩) (.inl (.inl rfl)) _).put (p := ⟨g3, 8, none⟩) (.inl (.inl rfl)) _).put (p := ⟨g3, 9, none⟩) (.inl (.inl rfl)) _).put (p := ⟨g3, 10, none⟩) (.inl (.inl rfl)) _).put (p := ⟨g4, 0, none⟩) (.inl (.inr rfl)) _).put (p := ⟨g4, 1, none⟩) (.inl (.inr rfl)) _).put (p := ⟨g4, 2, none⟩) (.inl (.inr rfl)) _).put (p := ⟨g4, 3, none⟩) (.inl (.inr rfl)) _).put (p := ⟨g4, 4, none⟩) (.inl (.inr rfl)) _).put (p := ⟨g4, 5, none⟩) (.inl (.inr rfl)) _).put (p := ⟨g4, 6, none⟩) (.inl (.inr rfl)) _).put (p := ⟨g4, 7, none⟩) (.inl (.inr rfl)) _)
  have HG5 : Hid (Has W5 g3 35 #[.int .i64 bid, .int .i64 bx, .int .i64 b_y, .int .i64 bvx, .int .i64 bvy, .int .i64 ban, .int .i64 bsp, .int .i64 bde, .int .i64 bk, .int .i64 br, .slice ao bn bc]) := by
   unfold Hid
   rw [eW5]
   have j0 := HG3.out.put11 (.int .i64 bid) (.int .i64 bx) (.int .i64 b_y) (.int .i64 bvx) (.int .i64 bvy) (.int .i64 ban) (.int .i64 bsp) (.int .i64 bde) (.int .i64 bk) (.int .i64 br) (.slice ao bn bc)
   exact ((((((((j0.other ⟨g4, 0, none⟩ hap _).other ⟨g4, 1, none⟩ hap _).other ⟨g4, 2, none⟩ hap _).other ⟨g4, 3, none⟩ hap _).other ⟨g4, 4, none⟩ hap _).other ⟨g4, 5, none⟩ hap _).other ⟨g4, 6, none⟩ hap _).other ⟨g4, 7, none⟩ hap _)
  have HX4 : Hid (Has ((((((((((((w4).setCell ⟨g3, 0, none⟩ (.int .i64 bid)).setCell ⟨g3, 1, none⟩ (.int .i64 bx)).setCell ⟨g3, 2, none⟩ (.int .i64 b_y)).setCell ⟨g3, 3, none⟩ (.int .i64 bvx)).setCell ⟨g3, 4, none⟩ (.int .i64 bvy)).setCell ⟨g3, 5, none⟩ (.int .i64 ban)).setCell ⟨g3, 6, none⟩ (.int .i64 bsp)).setCell ⟨g3, 7, none⟩ (.int .i64 bde)).setCell ⟨g3, 8, none⟩ (.int .i64 bk)).setCell ⟨g3, 9, none⟩ (.int .i64 br)).setCell ⟨g3, 10, none⟩ (.slice ao bn bc)) g4 102 #[.int .i64 0, .int .i64 0, .int .i64 0, .int .i64 0, .int .i64 0, .int .i64 0, .int .i64 0, .int .i64 0]) := (((((((((((HG4.out.other ⟨g3, 0, none⟩ (Ne.symm hap) _).other ⟨g3, 1, none⟩ (Ne.symm hap) _).other ⟨g3, 2, none⟩ (Ne.symm hap) _).other ⟨g3, 3, none⟩ (Ne.symm hap) _).other ⟨g3, 4, none⟩ (Ne.symm hap) _).other ⟨g3, 5, none⟩ (Ne.symm hap) _).other ⟨g3, 6, none⟩ (Ne.symm hap) _).other ⟨g3, 7, none⟩ (Ne.symm hap) _).other ⟨g3, 8, none⟩ (Ne.symm hap) _).other ⟨g3, 9, none⟩ (Ne.symm hap) _).other ⟨g3, 10, none⟩ (Ne.symm hap) _)
  have HJ5 : Hid (Has W5 g4 102 #[.int .i64 jid, .int .i64 ja, .int .i64 jb, .int .i64 jax, .int .i64 jay, .int .i64 jtx, .int .i64 jty, .int .i64 jln]) := by
   unfold Hid
   rw [eW5]
   exact ((((((((HX4.out.put 0 _).put 1 _).put 2 _).put 3 _).put 4 _).put 5 _).put 6 _).put 7 _)
  clear HX4
  go_wp2_with fail
  refine NoPanic.normal ?_
  rw [← eW5]
  refine HKK.out _ _ (Met.intro (HJJ.out _ _ ?_))
  (repeat apply Exists.intro)
  refine ⟨?rel, rfl⟩
  clear eW5 y_0 y_1 y_2 y_3 y_4 y_5 y_6 y_7 y_8 y_9 y_10 x_0 x_1 x_2 x_3 x_4 x_5 x_6 x_7 lg3 fg3 lg4 fg4
  refine ⟨ao, bc, g3, g4, rfl, rfl, But.made_ K4.out k5 K4.out.1.size (fun b hb => by have hb : b = g3 ∨ b = g4 := hb; have h := HLo.out; have h2 := HKW.out; omega), HD4.out.but k5 (by show ¬ (g1 = g3 ∨ g1 = g4); omega), HR4.out.but k5 (by show ¬ (g2 = g3 ∨ g2 = g4); omega), HG5.out, HJ5.out, fun hn => ?_, HOk.out, fun hn b off s e => (HOff.out hn b off s e).1⟩
  obtain ⟨b, off, e, hp⟩ := HSl.out hn
  have hx := HOff.out hn b off none e
  exact ⟨b, off, e, hp.but k5 (by show ¬ (b = g3 ∨ b = g4); omega)⟩
 case rest =>
  obtain ⟨ao, bc, g3, g4, rfl, rfl, HH⟩ := hcut
  have K4 := hid HH.out.1
  have HD4 := hid HH.out.2.1
  have HR4 := hid HH.out.2.2.1
  have HG4 := hid HH.out.2.2.2.1
  have HJ4 := hid HH.out.2.2.2.2.1
  have HS := hid (And.intro trivial HH.out.2.2.2.2.2)
  have d0 : wc.cell? ⟨g1, 0, none⟩ = some (.int .i64 kd) := by rw [HD4.out.at_]; exact H0.out.1
  have d8 : wc.cell? ⟨g1, 8, none⟩ = some (.int .i64 vx) := by rw [HD4.out.at_]; exact H0.out.2.1
  have d9 : wc.cell? ⟨g1, 9, none⟩ = some (.int .i64 vy) := by rw [HD4.out.at_]; exact H0.out.2.2.1
  have d10 : wc.cell? ⟨g1, 10, none⟩ = some (.int .i64 sp) := by rw [HD4.out.at_]; exact H0.out.2.2.2.1
  have d12 : wc.cell? ⟨g1, 12, none⟩ = some (.int .i64 a) := by rw [HD4.out.at_]; exact H0.out.2.2.2.2
  have ld : g1 < wc.heap.size := HD4.out.here
  clear HH HD HR KW HBo HJo
  have kS : But (fun b => b = g2) wc wc := But.rfl_ _ _
  have b0 := HR4.out.at_ 0
  have b1 := HR4.out.at_ 1
  have b2 := HR4.out.at_ 2
  have b3 := HR4.out.at_ 3
  have b4 := HR4.out.at_ 4
  have b5 := HR4.out.at_ 5
  have b6 := HR4.out.at_ 6
  have b7 := HR4.out.at_ 7
  have b8 := HR4.out.at_ 8
  have b9 := HR4.out.at_ 9
  have b10 := HR4.out.at_ 10
  have b11 := HR4.out.at_ 11
  have b12 := HR4.out.at_ 12
  have b13 := HR4.out.at_ 13
  have b14 := HR4.out.at_ 14
  simp at b0 b1 b2 b3 b4 b5 b6 b7 b8 b9 b10 b11 b12 b13 b14
  have l2 : g2 < wc.heap.size := HR4.out.here
  have fr2 : ∀ i, wc.frozen? ⟨g2, i, none⟩ = false := HR4.out.free
  by_cases k6 : K = 6
  ·subst k6
   go_upto_region 11 with fail
   go_wp2_with fail
   try refine NoPanic.normal ?_
   obtain ⟨W9, eW9⟩ : ∃ V, V = (((((((((((((((wc).setCell ⟨g2, 0, none⟩ (.int .i64 2)).setCell ⟨g2, 1, none⟩ (.int .i64 aq)).setCell ⟨g2, 2, none⟩ (.int .i64 0)).setCell ⟨g2, 3, none⟩ (.int .i64 0)).setCell ⟨g2, 4, none⟩ (.int .i64 0)).setCell ⟨g2, 5, none⟩ (.int .i64 0)).setCell ⟨g2, 6, none⟩ (.int .i64 0)).setCell ⟨g2, 7, none⟩ (.int .i64 0)).setCell ⟨g2, 8, none⟩ (.int .i64 0)).setCell ⟨g2, 9, none⟩ (.int .i64 0)).setCell ⟨g2, 10, none⟩ (.int .i64 0)).setCell ⟨g2, 11, none⟩ (.int .i64 0)).setCell ⟨g2, 12, none⟩ (.int .i64 0)).setCell ⟨g2, 13, none⟩ (.int .i64 0)).setCell ⟨g2, 14, none⟩ (.slice none 0 0) := ⟨_, rfl⟩
   have k9 : But (fun b => b = g2) wc W9 := by rw [eW9]; exact (But.rfl_ (fun b => b = g2) _).put15 (.inl rfl) (.int .i64 2) (.int .i64 aq) (.int .i64 0) (.int .i64 0) (.int .i64 0) (.int .i64 0) (.int .i64 0) (.int .i64 0) (.int .i64 0) (.int .i64 0) (.int .i64 0) (.int .i64 0) (.int .i64 0) (.int .i64 0) (.slice none 0 0)
   have HR9 : Has W9 g2 49 #[.int .i64 2, .int .i64 aq, .int .i64 0, .int .i64 0, .int .i64 0, .int .i64 0, .int .i64 0, .int .i64 0, .int .i64 0, .int .i64 0, .int .i64 0, .int .i64 0, .int .i64 0, .int .i64 0, .slice none 0 0] := by rw [eW9]; exact HR4.out.put15 (.int .i64 2) (.int .i64 aq) (.int .i64 0) (.int .i64 0) (.int .i64 0) (.int .i64 0) (.int .i64 0) (.int .i64 0) (.int .i64 0) (.int .i64 0) (.int .i64 0) (.int .i64 0) (.int .i64 0) (.int .i64 0) (.slice none 0 0)
   rw [← eW9]
   clear eW9 b0 b1 b2 b3 b4 b5 b6 b7 b8 b9 b10 b11 b12 b13 b14
   have q0 := HR9.at_ 0
   have q1 := HR9.at_ 1
   have q2 := HR9.at_ 2
   have q3 := HR9.at_ 3
   have q4 := HR9.at_ 4
   have q5 := HR9.at_ 5
   have q6 := HR9.at_ 6
   have q7 := HR9.at_ 7
   have q8 := HR9.at_ 8
   have q9 := HR9.at_ 9
   have q10 := HR9.at_ 10
   have q11 := HR9.at_ 11
   have q12 := HR9.at_ 12
   have q13 := HR9.at_ 13
   have q14 := HR9.at_ 14
   simp at q0 q1 q2 q3 q4 q5 q6 q7 q8 q9 q10 q11 q12 q13 q14
   refine bodyPost_ret (v := .agg #[.int .i64 2, .int .i64 aq, .int .i64 0, .int .i64 0, .int .i64 0, .int .i64 0, .int .i64 0, .int .i64 0, .int .i64 0, .int .i64 0, .int .i64 0, .int .i64 0, .int .i64 0, .int .i64 0, .slice none 0 0]) (by simp [results, Tryz.results69, go_sem, q0, q1, q2, q3, q4, q5, q6, q7, q8, q9, q10, q11, q12, q13, q14]) rfl ⟨ao, bc, ?_, ?_, HS.out.2.2.1, But.made_ K4.out k9 K4.out.1.size (fun b hb => by have hb : b = g2 := hb; have h := HG12.out; omega)⟩
   ·rfl
   ·exact fun hn => absurd hn (Nat.lt_irrefl 0)
  by_cases k7 : K = 7
  ·subst k7
   have iM : I64 214748364800 := by unfold I64; omega
   go_wp2_with fail
   refine (vbring_is _ _ _ _ _ _ HIn.out.1 HIn.out.2.1 iM HBr.out.2.2.2.1 HBr.out.2.2.2.2).mono ?_
   rintro e w5 ⟨rfl, k5⟩
   have K5 := hid (K4.out.then_ (k5.low K4.out.1.size))
   have HR5 := hid (HR4.out.stays k5 HR4.out.here)
   clear k5 b0 b1 b2 b3 b4 b5 b6 b7 b8 b9 b10 b11 b12 b13 b14 l2 fr2 d0 d8 d9 d10 d12 ld
   have b0 := HR5.out.at_ 0
   have b1 := HR5.out.at_ 1
   have b2 := HR5.out.at_ 2
   have b3 := HR5.out.at_ 3
   have b4 := HR5.out.at_ 4
   have b5 := HR5.out.at_ 5
   have b6 := HR5.out.at_ 6
   have b7 := HR5.out.at_ 7
   have b8 := HR5.out.at_ 8
   have b9 := HR5.out.at_ 9
   have b10 := HR5.out.at_ 10
   have b11 := HR5.out.at_ 11
   have b12 := HR5.out.at_ 12
   have b13 := HR5.out.at_ 13
   have b14 := HR5.out.at_ 14
   simp at b0 b1 b2 b3 b4 b5 b6 b7 b8 b9 b10 b11 b12 b13 b14
   have l2 : g2 < w5.heap.size := HR5.out.here
   have fr2 : ∀ i, w5.frozen? ⟨g2, i, none⟩ = false := HR5.out.free
   go_wp2_with fail
   try refine NoPanic.normal ?_
   obtain ⟨W9, eW9⟩ : ∃ V, V = (((((((((((((((w5).setCell ⟨g2, 0, none⟩ (.int .i64 6)).setCell ⟨g2, 1, none⟩ (.int .i64 0)).setCell ⟨g2, 2, none⟩ (.int .i64 0)).setCell ⟨g2, 3, none⟩ (.int .i64 0)).setCell ⟨g2, 4, none⟩ (.int .i64 0)).setCell ⟨g2, 5, none⟩ (.int .i64 0)).setCell ⟨g2, 6, none⟩ (.int .i64 PX)).setCell ⟨g2, 7, none⟩ (.int .i64 PY)).setCell ⟨g2, 8, none⟩ (.int .i64 0)).setCell ⟨g2, 9, none⟩ (.int .i64 0)).setCell ⟨g2, 10, none⟩ (.int .i64 0)).setCell ⟨g2, 11, none⟩ (.int .i64 0)).setCell ⟨g2, 12, none⟩ (.int .i64 0)).setCell ⟨g2, 13, none⟩ (.int .i64 0)).setCell ⟨g2, 14, none⟩ (.slice none 0 0) := ⟨_, rfl⟩
   have k9 : But (fun b => b = g2) w5 W9 := by rw [eW9]; exact (But.rfl_ (fun b => b = g2) _).put15 (.inl rfl) (.int .i64 6) (.int .i64 0) (.int .i64 0) (.int .i64 0) (.int .i64 0) (.int .i64 0) (.int .i64 PX) (.int .i64 PY) (.int .i64 0) (.int .i64 0) (.int .i64 0) (.int .i64 0) (.int .i64 0) (.int .i64 0) (.slice none 0 0)
   have HR9 : Has W9 g2 49 #[.int .i64 6, .int .i64 0, .int .i64 0, .int .i64 0, .int .i64 0, .int .i64 0, .int .i64 PX, .int .i64 PY, .int .i64 0, .int .i64 0, .int .i64 0, .int .i64 0, .int .i64 0, .int .i64 0, .slice none 0 0] := by rw [eW9]; exact HR5.out.put15 (.int .i64 6) (.int .i64 0) (.int .i64 0) (.int .i64 0) (.int .i64 0) (.int .i64 0) (.int .i64 PX) (.int .i64 PY) (.int .i64 0) (.int .i64 0) (.int .i64 0) (.int .i64 0) (.int .i64 0) (.int .i64 0) (.slice none 0 0)
   rw [← eW9]
   clear eW9 b0 b1 b2 b3 b4 b5 b6 b7 b8 b9 b10 b11 b12 b13 b14
   have q0 := HR9.at_ 0
   have q1 := HR9.at_ 1
   have q2 := HR9.at_ 2
   have q3 := HR9.at_ 3
   have q4 := HR9.at_ 4
   have q5 := HR9.at_ 5
   have q6 := HR9.at_ 6
   have q7 := HR9.at_ 7
   have q8 := HR9.at_ 8
   have q9 := HR9.at_ 9
   have q10 := HR9.at_ 10
   have q11 := HR9.at_ 11
   have q12 := HR9.at_ 12
   have q13 := HR9.at_ 13
   have q14 := HR9.at_ 14
   simp at q0 q1 q2 q3 q4 q5 q6 q7 q8 q9 q10 q11 q12 q13 q14
   refine bodyPost_ret (v := .agg #[.int .i64 6, .int .i64 0, .int .i64 0, .int .i64 0, .int .i64 0, .int .i64 0, .int .i64 PX, .int .i64 PY, .int .i64 0, .int .i64 0, .int .i64 0, .int .i64 0, .int .i64 0, .int .i64 0, .slice none 0 0]) (by simp [results, Tryz.results69, go_sem, q0, q1, q2, q3, q4, q5, q6, q7, q8, q9, q10, q11, q12, q13, q14]) rfl ⟨ao, bc, ?_, ?_, HS.out.2.2.1, But.made_ K5.out k9 K5.out.1.size (fun b hb => by have hb : b = g2 := hb; have h := HG12.out; omega)⟩
   ·rfl
   ·exact fun hn => absurd hn (Nat.lt_irrefl 0)
  omega
end Go.Proofs.YtgdcphmmehedoaaGreat.Fx
/- The statements' Order of a deed, some kinds. -/
namespace Go.Proofs.YtgdcphmmehedoaaGreat.Fx
open Go.ChangeShapes Go.WideShapes Go.ChangeAt Go.RowKit
set_option linter.unusedVariables false
theorem dorder_e {Q : Option Addr → Nat → Prop} (ar : Array Value) (kd vx vy sp a K aq VX VY SP PX PY : Int) (hsz : ar.size = 30) (h_0 : ar[0]? = some (.int .i64 kd)) (h_8 : ar[8]? = some (.int .i64 vx)) (h_9 : ar[9]? = some (.int .i64 vy)) (h_10 : ar[10]? = some (.int .i64 sp)) (h_12 : ar[12]? = some (.int .i64 a)) (bid bx b_y bvx bvy ban bsp bde bk br : Int) (bao : Option Addr) (bn bq : Nat) (bf : Cs) (jid ja jb jax jay jtx jty jln : Int) (w : World) (hK : kd % 8 = K) (hA : a % 16 = aq)
  (hKc : ¬ (K = 2 ∨ K = 3 ∨ K = 4 ∨ K = 5 ∨ K = 6 ∨ K = 7)) (ivx : I64 vx) (ivy : I64 vy) (isp : I64 sp) (hVX : bringF vx (negF 858993459200) 858993459200 = VX) (hVY : bringF vy (negF 858993459200) 858993459200 = VY) (hSP : bringF sp (-858993459200) 858993459200 = SP) (hPX : bringF vx (negF 214748364800) 214748364800 = PX) (hPY : bringF vy (negF 214748364800) 214748364800 = PY)
  (HBo : ∀ v, Made w.heap.size w v → Calls Tryz.prog 48 #[.agg ar] v fun e u => ∃ ao bc, e = .returned (bodyV bid bx b_y bvx bvy ban bsp bde bk br (.slice ao bn bc)) ∧ Sl u ao bn bf ∧ Q ao bc ∧ Made v.heap.size v u ∧ (0 < bn → ∀ b off s, ao = some ⟨b, off, s⟩ → b < w.heap.size ∨ v.heap.size ≤ b))
  (HJo : ∀ v, Calls Tryz.prog 44 #[.agg ar] v fun e u => e = .returned (.agg #[.int .i64 jid, .int .i64 ja, .int .i64 jb, .int .i64 jax, .int .i64 jay, .int .i64 jtx, .int .i64 jty, .int .i64 jln]) ∧ Made v.heap.size v u) :
  Calls Tryz.prog 69 #[.agg ar] w fun e v => Ans1 Q w K aq VX VY SP PX PY ⟨jid, ja, jb, jax, jay, jtx, jty, jln⟩ ⟨bid, bx, b_y, bvx, bvy, ban, bsp, bde, bk, br, bao, bn, bq, bf⟩ e v := by
 have HSZ := hid hsz
 have H0 := hid (And.intro h_0 (And.intro h_8 (And.intro h_9 (And.intro h_10 h_12))))
 have HBr := hid (And.intro hVX (And.intro hVY (And.intro hSP (And.intro hPX hPY))))
 have HIn := hid (And.intro ivx (And.intro ivy isp))
 clear hsz h_0 h_8 h_9 h_10 h_12 hVX hVY hSP hPX hPY ivx ivy isp
 have HBo := hid HBo
 have HJo := hid HJo
 have aK := (and7 kd).trans hK
 have aA := (and15 a).trans hA
 clear hK hA
 obtain ⟨W, eW⟩ : ∃ W, W = (w.alloc (.cells ar 37)).alloc (.cells #[.int .i64 0, .int .i64 0, .int .i64 0, .int .i64 0, .int .i64 0, .int .i64 0, .int .i64 0, .int .i64 0, .int .i64 0, .int .i64 0, .int .i64 0, .int .i64 0, .int .i64 0, .int .i64 0, .slice none 0 0] 49) := ⟨_, rfl⟩
 have KW : Hid (Made w.heap.size w W) := by unfold Hid; rw [eW]; exact ((Made.rfl_ _ _).cells (Nat.le_refl _) _ _).cells (by simp) _ _
 have HD : Hid (Has W w.heap.size 37 ar) := by unfold Hid; rw [eW]; exact (has_new _ _ _).more _
 have HR : Hid (Has W (w.heap.size + 1) 49 #[.int .i64 0, .int .i64 0, .int .i64 0, .int .i64 0, .int .i64 0, .int .i64 0, .int .i64 0, .int .i64 0, .int .i64 0, .int .i64 0, .int .i64 0, .int .i64 0, .int .i64 0, .int .i64 0, .slice none 0 0]) := by unfold Hid; rw [eW]; exact has_nxt' _ _ _ _
 obtain ⟨g1, eg1⟩ : ∃ g, w.heap.size = g := ⟨_, rfl⟩
 obtain ⟨g2, eg2⟩ : ∃ g, g1 + 1 = g := ⟨_, rfl⟩
 have hw1 : w.heap.size ≤ g1 := Nat.le_of_eq eg1
 have HG12 : Hid (w.heap.size = g1 ∧ g1 + 1 = g2) := ⟨eg1, eg2⟩
 rw [eg1] at HD
 rw [eg1, eg2] at HR
 go_enter Tryz.func69, Tryz.ntmps69
 go_upto_region 1 with fail
 rw [← eW]
 clear eW
 try rw [eg1]
 try rw [eg2]
 clear eg1 eg2
 have ld : g1 < W.heap.size := HD.out.here
 go_cut [3, 4] (fun s3 s4 wx => ∃ (ao : Option Addr) (bc g3 g4 : Nat), s3 = .pointer (some ⟨g3, 0, none⟩) ∧ s4 = .pointer (some ⟨g4, 0, none⟩) ∧ Hid (Made w.heap.size w wx ∧ Has wx g1 37 ar ∧ Has wx g2 49 #[.int .i64 0, .int .i64 0, .int .i64 0, .int .i64 0, .int .i64 0, .int .i64 0, .int .i64 0, .int .i64 0, .int .i64 0, .int .i64 0, .int .i64 0, .int .i64 0, .int .i64 0, .int .i64 0, .slice none 0 0] ∧ Has wx g3 35 #[.int .i64 bid, .int .i64 bx, .int .i64 b_y, .int .i64 bvx, .int .i64 bvy, .int .i64 ban, .int .i64 bsp, .int .i64 bde, .int .i64 bk, .int .i64 br, .slice ao bn bc] ∧ Has wx g4 102 #[.int .i64 jid, .int .i64 ja, .int .i64 jb, .int .i64 jax, .int .i64 jay, .int .i64 jtx, .int .i64 jty, .int .i64 jln] ∧ Sl wx ao bn bf ∧ Q ao bc ∧ (0 < bn → ∀ b off s, ao = some ⟨b, off, s⟩ → ¬ b = g2)))
 case first =>
  rename_i JJ KK hJJ hKK
  have HJJ := hid hJJ
  have HKK := hid hKK
  go_wp2_with fail
  refine MI.reg_mk (alD Q w.heap.size (fun ao bc => bodyV bid bx b_y bvx bvy ban bsp bde bk br (.slice ao bn bc)) bn bf) 6 [0, 2, 1, 3, 4, 5] [0, 2, 3] [1, 4, 5] [] (fun _ => []) (val := valD) (by kernel_rfl) (by kernel_rfl) (fun p hp => absurd hp (by simp)) ?_
  refine MI.can_class (rest := [1, 3, 4, 5]) [0, 2] [] 69 (alD_lasts _ _ _ _ _) (MI.any_class _) (by kernel_rfl) rfl (by kernel_rfl) (by kernel_rfl) ?_
  apply Exists.intro
  refine ⟨?q1, ?q2⟩
  case q1 =>
   intro Ty hT fw hf _
   change wpQuiet _ _ _ _ [_, _] _
   refine wpQuiet_load rfl 37 (.tmp 1) rfl g1 rfl ar 37 _ (Class.has hf HD.out) Tryz.underlying37 rfl (by rw [HSZ.out]; kernel_rfl) ?_
   simp only [Act.put, List.setIfInBounds_toArray, List.set_cons_succ, List.set_cons_zero]
   refine wpQuiet_load rfl 37 (.tmp 1) rfl g1 rfl ar 37 _ (Class.has hf HD.out) Tryz.underlying37 rfl (by rw [HSZ.out]; kernel_rfl) ?_
   simp only [Act.put, List.setIfInBounds_toArray, List.set_cons_succ, List.set_cons_zero]
   exact wpQuiet_nil rfl
  refine MI.can_mk 1 6 _ rfl rfl rfl rfl ?m1 fun q1 e1 => ?n1
  case m1 =>
   intro G' u _ hu
   rw [show (execOp _ _).run Tryz.prog u = .ok (.enter 48 #[.agg ar]) u by kernel_rfl]
   show Calls _ _ _ _ _
   refine (HBo.out u (KW.out.then_ (hu.1.low KW.out.1.size))).mono ?_
   rintro e v ⟨ao, bc, rfl, h1, h2, h3, h4⟩
   refine ⟨u.heap.size, ⟨v.heap.size, bodyV bid bx b_y bvx bvy ban bsp bde bk br (.slice ao bn bc), []⟩, rfl, hu.next (alD_lasts _ _ _ _ _) h3 (Nat.le_refl _) h3.1.size (Nat.le_refl _) ⟨fun _ => ⟨ao, bc, rfl, h1, h2, fun hn b off s e => ?_⟩, fun h => absurd h (by omega), fun h => absurd h (by omega)⟩⟩
   rcases h4 hn b off s e with h | h
   ·exact .inl h
   ·refine .inr ⟨h, ?_⟩
    obtain ⟨b', off', e', hp⟩ := h1 hn
    rw [e] at e'
    cases e'
    exact World.block_lt_of_cell? _ _ (hp 0 hn).1
  rw [show valD 1 q1 e1 = e1.v from rfl]
  simp only [Act.put, List.setIfInBounds_toArray, List.set_cons_succ, List.set_cons_zero]
  refine MI.can_class (rest := [4, 5]) [3] [] 69 (alD_lasts _ _ _ _ _) (MI.any_class _) (by kernel_rfl) rfl (by kernel_rfl) (by kernel_rfl) ?_
  apply Exists.intro
  refine ⟨?q3, ?q4⟩
  case q3 =>
   intro Ty hT fw hf _
   change wpQuiet _ _ _ _ [_] _
   repeat (go_big_quiet_step ((go_at_call 44; exact hf.made (HJo.out _))))
   exact wpQuiet_nil rfl
  refine MI.can_mk 4 3 _ rfl rfl rfl rfl ?m4 fun g3 f3 => ?n4
  case m4 =>
   intro G' u _ hu
   rw [show (execOp _ _).run Tryz.prog u = .ok (.value (.pointer (some ⟨u.heap.size, 0, none⟩))) (u.alloc (.cells #[.int .i64 0, .int .i64 0, .int .i64 0, .int .i64 0, .int .i64 0, .int .i64 0, .int .i64 0, .int .i64 0, .int .i64 0, .int .i64 0, .slice none 0 0] 35)) by kernel_rfl]
   exact ⟨u.heap.size, ⟨u.heap.size + 1, .bool false, []⟩, rfl, hu.next (alD_lasts _ _ _ _ _) ((Made.rfl_ _ _).cells (Nat.le_refl _) _ _) (Nat.le_refl _) (by simp) (by simp) ⟨fun h => absurd h (by omega), fun _ => ⟨has_new _ _ _, rfl⟩, fun h => absurd h (by omega)⟩⟩
  rw [show valD 4 g3 f3 = .pointer (some ⟨g3, 0, none⟩) from rfl]
  simp only [Act.put, List.setIfInBounds_toArray, List.set_cons_succ, List.set_cons_zero]
  refine MI.can_mk 5 4 _ rfl rfl rfl rfl ?m5 fun g4 f4 => ?n5
  case m5 =>
   intro G' u _ hu
   rw [show (execOp _ _).run Tryz.prog u = .ok (.value (.pointer (some ⟨u.heap.size, 0, none⟩))) (u.alloc (.cells #[.int .i64 0, .int .i64 0, .int .i64 0, .int .i64 0, .int .i64 0, .int .i64 0, .int .i64 0, .int .i64 0] 102)) by kernel_rfl]
   exact ⟨u.heap.size, ⟨u.heap.size + 1, .bool false, []⟩, rfl, hu.next (alD_lasts _ _ _ _ _) ((Made.rfl_ _ _).cells (Nat.le_refl _) _ _) (Nat.le_refl _) (by simp) (by simp) ⟨fun h => absurd h (by omega), fun h => absurd h (by omega), fun _ => ⟨has_new _ _ _, rfl⟩⟩⟩
  rw [show valD 5 g4 f4 = .pointer (some ⟨g4, 0, none⟩) from rfl]
  simp only [Act.put, List.setIfInBounds_toArray, List.set_cons_succ, List.set_cons_zero]
  intro w4 hu
  have k4 := hu.1
  have t1 : (MI.upd (MI.upd (MI.upd (fun _ => none) 1 (q1, e1)) 4 (g3, f3)) 5 (g4, f4)) 1 = some (q1, e1) := by unfold MI.upd; simp
  have t4 : (MI.upd (MI.upd (MI.upd (fun _ => none) 1 (q1, e1)) 4 (g3, f3)) 5 (g4, f4)) 4 = some (g3, f3) := by unfold MI.upd; simp
  have t5 : (MI.upd (MI.upd (MI.upd (fun _ => none) 1 (q1, e1)) 4 (g3, f3)) 5 (g4, f4)) 5 = some (g4, f4) := by unfold MI.upd; simp
  obtain ⟨l1, m1, h1, a1⟩ := hu.2.1 1 _ t1
  obtain ⟨l4, m4, h4, a4⟩ := hu.2.1 4 _ t4
  obtain ⟨l5, m5, h5, a5⟩ := hu.2.1 5 _ t5
  obtain ⟨ao, bc, ev, hsl, hok, hwh⟩ := a1.1 rfl
  obtain ⟨hg3, hf3⟩ := a4.2.1 rfl
  obtain ⟨hg4, hf4⟩ := a5.2.2 rfl
  simp only [] at ev hsl hok hwh hg3 hf3 hg4 hf4 l1 m1 h1 l4 l5
  have hap : ¬ g3 = g4 := by
   rcases hu.2.2 4 5 _ _ t4 t5 (by omega) with h | h
   ·simp only [hf3] at h; omega
   ·simp only [hf4] at h; omega
  have hx3 : ∀ b, q1 ≤ b → b < e1.hi → ¬ b = g3 := fun b hb1 hb2 e => by
   rcases hu.2.2 1 4 _ _ t1 t4 (by omega) with h | h
   ·simp only [] at h; omega
   ·simp only [hf3] at h; omega
  have hx4 : ∀ b, q1 ≤ b → b < e1.hi → ¬ b = g4 := fun b hb1 hb2 e => by
   rcases hu.2.2 1 5 _ _ t1 t5 (by omega) with h | h
   ·simp only [] at h; omega
   ·simp only [hf4] at h; omega
  have hls : w.heap.size < g2 ∧ g2 < W.heap.size := ⟨by have := HG12.out; omega, HR.out.here⟩
  have HOff : Hid (0 < bn → ∀ b off s, ao = some ⟨b, off, s⟩ → ¬ b = g2 ∧ ¬ b = g3 ∧ ¬ b = g4) := fun hn b off s e => by
   rcases hwh hn b off s e with h | ⟨h, h'⟩
   ·omega
   ·exact ⟨by omega, hx3 b h h', hx4 b h h'⟩
  have HSl := hid hsl; have HOk := hid hok; have HG3 := hid hg3; have HG4 := hid hg4
  have HLo := hid (And.intro l4 l5)
  have K4 := hid (KW.out.then_ (k4.low KW.out.1.size))
  have HD4 := hid (HD.out.stays k4 ld)
  have HR4 := hid (HR.out.stays k4 HR.out.here)
  have hr2 : ¬ g2 = g3 ∧ ¬ g2 = g4 ∧ ¬ g1 = g3 ∧ ¬ g1 = g4 := by have h1 := HR.out.here; have h2 := ld; have h3 := HLo.out; omega
  have HKW := hid KW.out.1.size
  rw [ev]
  clear hu a1 a4 a5 t1 t4 t5 hf3 hf4 ev hsl hok hwh hg3 hg4 l1 m1 h1 l4 m4 h4 l5 m5 h5 k4 ld HD HR KW hx3 hx4 hls
  simp only [List.drop_succ_cons, List.drop_zero]
  have y_0 := HG3.out.at_ 0
  have y_1 := HG3.out.at_ 1
  have y_2 := HG3.out.at_ 2
  have y_3 := HG3.out.at_ 3
  have y_4 := HG3.out.at_ 4
  have y_5 := HG3.out.at_ 5
  have y_6 := HG3.out.at_ 6
  have y_7 := HG3.out.at_ 7
  have y_8 := HG3.out.at_ 8
  have y_9 := HG3.out.at_ 9
  have y_10 := HG3.out.at_ 10
  simp at y_0 y_1 y_2 y_3 y_4 y_5 y_6 y_7 y_8 y_9 y_10
  have lg3 : g3 < w4.heap.size := HG3.out.here
  have fg3 : ∀ i, w4.frozen? ⟨g3, i, none⟩ = false := HG3.out.free
  have x_0 := HG4.out.at_ 0
  have x_1 := HG4.out.at_ 1
  have x_2 := HG4.out.at_ 2
  have x_3 := HG4.out.at_ 3
  have x_4 := HG4.out.at_ 4
  have x_5 := HG4.out.at_ 5
  have x_6 := HG4.out.at_ 6
  have x_7 := HG4.out.at_ 7
  simp at x_0 x_1 x_2 x_3 x_4 x_5 x_6 x_7
  have lg4 : g4 < w4.heap.size := HG4.out.here
  have fg4 : ∀ i, w4.frozen? ⟨g4, i, none⟩ = false := HG4.out.free
  obtain ⟨W5, eW5⟩ : ∃ V, V = (((((((((((((((((((w4).setCell ⟨g3, 0, none⟩ (.int .i64 bid)).setCell ⟨g3, 1, none⟩ (.int .i64 bx)).setCell ⟨g3, 2, none⟩ (.int .i64 b_y)).setCell ⟨g3, 3, none⟩ (.int .i64 bvx)).setCell ⟨g3, 4, none⟩ (.int .i64 bvy)).setCell ⟨g3, 5, none⟩ (.int .i64 ban)).setCell ⟨g3, 6, none⟩ (.int .i64 bsp)).setCell ⟨g3, 7, none⟩ (.int .i64 bde)).setCell ⟨g3, 8, none⟩ (.int .i64 bk)).setCell ⟨g3, 9, none⟩ (.int .i64 br)).setCell ⟨g3, 10, none⟩ (.slice ao bn bc)).setCell ⟨g4, 0, none⟩ (.int .i64 jid)).setCell ⟨g4, 1, none⟩ (.int .i64 ja)).setCell ⟨g4, 2, none⟩ (.int .i64 jb)).setCell ⟨g4, 3, none⟩ (.int .i64 jax)).setCell ⟨g4, 4, none⟩ (.int .i64 jay)).setCell ⟨g4, 5, none⟩ (.int .i64 jtx)).setCell ⟨g4, 6, none⟩ (.int .i64 jty)).setCell ⟨g4, 7, none⟩ (.int .i64 jln) := ⟨_, rfl⟩
  have k5 : But (fun b => b = g3 ∨ b = g4) w4 W5 := by rw [eW5]; exact ((((((((((((((((((((But.rfl_ (fun b => b = g3 ∨ b = g4) w4).put (p := ⟨g3, 0, none⟩) (.inl (.inl rfl)) _).put (p := ⟨g3, 1, none⟩) (.inl (.inl rfl)) _).put (p := ⟨g3, 2, none⟩) (.inl (.inl rfl)) _).put (p := ⟨g3, 3, none⟩) (.inl (.inl rfl)) _).put (p := ⟨g3, 4, none⟩) (.inl (.inl rfl)) _).put (p := ⟨g3, 5, none⟩) (.inl (.inl rfl)) _).put (p := ⟨g3, 6, none⟩) (.inl (.inl rfl)) _).put (p := ⟨g3, 7, none⟩) (.inl (.inl rfl)) _).put (p := ⟨g3, 8, none⟩) (.inl (.inl rfl)) _).put (p := ⟨g3, 9, none⟩) (.inl (.inl rfl)) _).put (p := ⟨g3, 10, none⟩) (.inl (.inl rfl)) _).put (p := ⟨g4, 0, none⟩) (.inl (.inr rfl)) _).put (p := ⟨g4, 1, none⟩) (.inl (.inr rfl)) _).put (p := ⟨g4, 2, none⟩) (.inl (.inr rfl)) _).put (p := ⟨g4, 3, none⟩) (.inl (.inr rfl)) _).put (p := ⟨g4, 4, none⟩) (.inl (.inr rfl)) _).put (p := ⟨g4, 5, none⟩) (.inl (.inr rfl)) _).put (p := ⟨g4, 6, none⟩) (.inl (.inr rfl)) _).put (p := ⟨g4, 7, none⟩) (.inl (.inr rfl)) _)
  have HG5 : Hid (Has W5 g3 35 #[.int .i64 bid, .int .i64 bx, .int .i64 b_y, .int .i64 bvx, .int .i64 bvy, .int .i64 ban, .int .i64 bsp, .int .i64 bde, .int .i64 bk, .int .i64 br, .slice ao bn bc]) := by
   unfold Hid
   rw [eW5]
   have j0 := HG3.out.put11 (.int .i64 bid) (.int .i64 bx) (.int .i64 b_y) (.int .i64 bvx) (.int .i64 bvy) (.int .i64 ban) (.int .i64 bsp) (.int .i64 bde) (.int .i64 bk) (.int .i64 br) (.slice ao bn bc)
   exact ((((((((j0.other ⟨g4, 0, none⟩ hap _).other ⟨g4, 1, none⟩ hap _).other ⟨g4, 2, none⟩ hap _).other ⟨g4, 3, none⟩ hap _).other ⟨g4, 4, none⟩ hap _).other ⟨g4, 5, none⟩ hap _).other ⟨g4, 6, none⟩ hap _).other ⟨g4, 7, none⟩ hap _)
  have HX4 : Hid (Has ((((((((((((w4).setCell ⟨g3, 0, none⟩ (.int .i64 bid)).setCell ⟨g3, 1, none⟩ (.int .i64 bx)).setCell ⟨g3, 2, none⟩ (.int .i64 b_y)).setCell ⟨g3, 3, none⟩ (.int .i64 bvx)).setCell ⟨g3, 4, none⟩ (.int .i64 bvy)).setCell ⟨g3, 5, none⟩ (.int .i64 ban)).setCell ⟨g3, 6, none⟩ (.int .i64 bsp)).setCell ⟨g3, 7, none⟩ (.int .i64 bde)).setCell ⟨g3, 8, none⟩ (.int .i64 bk)).setCell ⟨g3, 9, none⟩ (.int .i64 br)).setCell ⟨g3, 10, none⟩ (.slice ao bn bc)) g4 102 #[.int .i64 0, .int .i64 0, .int .i64 0, .int .i64 0, .int .i64 0, .int .i64 0, .int .i64 0, .int .i64 0]) := (((((((((((HG4.out.other ⟨g3, 0, none⟩ (Ne.symm hap) _).other ⟨g3, 1, none⟩ (Ne.symm hap) _).other ⟨g3, 2, none⟩ (Ne.symm hap) _).other ⟨g3, 3, none⟩ (Ne.symm hap) _).other ⟨g3, 4, none⟩ (Ne.symm hap) _).other ⟨g3, 5, none⟩ (Ne.symm hap) _).other ⟨g3, 6, none⟩ (Ne.symm hap) _).other ⟨g3, 7, none⟩ (Ne.symm hap) _).other ⟨g3, 8, none⟩ (Ne.symm hap) _).other ⟨g3, 9, none⟩ (Ne.symm hap) _).other ⟨g3, 10, none⟩ (Ne.symm hap) _)
  have HJ5 : Hid (Has W5 g4 102 #[.int .i64 jid, .int .i64 ja, .int .i64 jb, .int .i64 jax, .int .i64 jay, .int .i64 jtx, .int .i64 jty, .int .i64 jln]) := by
   unfold Hid
   rw [eW5]
   exact ((((((((HX4.out.put 0 _).put 1 _).put 2 _).put 3 _).put 4 _).put 5 _).put 6 _).put 7 _)
  clear HX4
  go_wp2_with fail
  refine NoPanic.normal ?_
  rw [← eW5]
  refine HKK.out _ _ (Met.intro (HJJ.out _ _ ?_))
  (repeat apply Exists.intro)
  refine ⟨?rel, rfl⟩
  clear eW5 y_0 y_1 y_2 y_3 y_4 y_5 y_6 y_7 y_8 y_9 y_10 x_0 x_1 x_2 x_3 x_4 x_5 x_6 x_7 lg3 fg3 lg4 fg4
  refine ⟨ao, bc, g3, g4, rfl, rfl, But.made_ K4.out k5 K4.out.1.size (fun b hb => by have hb : b = g3 ∨ b = g4 := hb; have h := HLo.out; have h2 := HKW.out; omega), HD4.out.but k5 (by show ¬ (g1 = g3 ∨ g1 = g4); omega), HR4.out.but k5 (by show ¬ (g2 = g3 ∨ g2 = g4); omega), HG5.out, HJ5.out, fun hn => ?_, HOk.out, fun hn b off s e => (HOff.out hn b off s e).1⟩
  obtain ⟨b, off, e, hp⟩ := HSl.out hn
  have hx := HOff.out hn b off none e
  exact ⟨b, off, e, hp.but k5 (by show ¬ (b = g3 ∨ b = g4); omega)⟩
 case rest =>
  obtain ⟨ao, bc, g3, g4, rfl, rfl, HH⟩ := hcut
  have K4 := hid HH.out.1
  have HD4 := hid HH.out.2.1
  have HR4 := hid HH.out.2.2.1
  have HG4 := hid HH.out.2.2.2.1
  have HJ4 := hid HH.out.2.2.2.2.1
  have HS := hid (And.intro trivial HH.out.2.2.2.2.2)
  have d0 : wc.cell? ⟨g1, 0, none⟩ = some (.int .i64 kd) := by rw [HD4.out.at_]; exact H0.out.1
  have d8 : wc.cell? ⟨g1, 8, none⟩ = some (.int .i64 vx) := by rw [HD4.out.at_]; exact H0.out.2.1
  have d9 : wc.cell? ⟨g1, 9, none⟩ = some (.int .i64 vy) := by rw [HD4.out.at_]; exact H0.out.2.2.1
  have d10 : wc.cell? ⟨g1, 10, none⟩ = some (.int .i64 sp) := by rw [HD4.out.at_]; exact H0.out.2.2.2.1
  have d12 : wc.cell? ⟨g1, 12, none⟩ = some (.int .i64 a) := by rw [HD4.out.at_]; exact H0.out.2.2.2.2
  have ld : g1 < wc.heap.size := HD4.out.here
  clear HH HD HR KW HBo HJo
  have kS : But (fun b => b = g2) wc wc := But.rfl_ _ _
  have b0 := HR4.out.at_ 0
  have b1 := HR4.out.at_ 1
  have b2 := HR4.out.at_ 2
  have b3 := HR4.out.at_ 3
  have b4 := HR4.out.at_ 4
  have b5 := HR4.out.at_ 5
  have b6 := HR4.out.at_ 6
  have b7 := HR4.out.at_ 7
  have b8 := HR4.out.at_ 8
  have b9 := HR4.out.at_ 9
  have b10 := HR4.out.at_ 10
  have b11 := HR4.out.at_ 11
  have b12 := HR4.out.at_ 12
  have b13 := HR4.out.at_ 13
  have b14 := HR4.out.at_ 14
  simp at b0 b1 b2 b3 b4 b5 b6 b7 b8 b9 b10 b11 b12 b13 b14
  have l2 : g2 < wc.heap.size := HR4.out.here
  have fr2 : ∀ i, wc.frozen? ⟨g2, i, none⟩ = false := HR4.out.free
  have k2 : ¬ K = 2 := by omega
  have k3 : ¬ K = 3 := by omega
  have k4 : ¬ K = 4 := by omega
  have k5 : ¬ K = 5 := by omega
  have k6 : ¬ K = 6 := by omega
  have k7 : ¬ K = 7 := by omega
  have hKn : (¬ K = 2 ∧ ¬ K = 3 ∧ ¬ (K = 4 ∨ K = 5)) ∧ ¬ K = 6 ∧ ¬ K = 7 := by omega
  have n2 : (K == 2) = false := by simpa using k2
  have n3 : (K == 3) = false := by simpa using k3
  have n4 : (K == 4) = false := by simpa using k4
  have n5 : (K == 5) = false := by simpa using k5
  have n6 : (K == 6) = false := by simpa using k6
  have n7 : (K == 7) = false := by simpa using k7
  have y0 := HG4.out.at_ 0
  have y1 := HG4.out.at_ 1
  have y2 := HG4.out.at_ 2
  have y3 := HG4.out.at_ 3
  have y4 := HG4.out.at_ 4
  have y5 := HG4.out.at_ 5
  have y6 := HG4.out.at_ 6
  have y7 := HG4.out.at_ 7
  have y8 := HG4.out.at_ 8
  have y9 := HG4.out.at_ 9
  have y10 := HG4.out.at_ 10
  simp at y0 y1 y2 y3 y4 y5 y6 y7 y8 y9 y10
  have ly : g3 < wc.heap.size := HG4.out.here
  go_upto_region 14 with fail
  go_wp2_with fail
  try refine NoPanic.normal ?_
  obtain ⟨W9, eW9⟩ : ∃ V, V = (((((((((((((((wc).setCell ⟨g2, 0, none⟩ (.int .i64 1)).setCell ⟨g2, 1, none⟩ (.int .i64 0)).setCell ⟨g2, 2, none⟩ (.int .i64 0)).setCell ⟨g2, 3, none⟩ (.int .i64 0)).setCell ⟨g2, 4, none⟩ (.int .i64 bx)).setCell ⟨g2, 5, none⟩ (.int .i64 b_y)).setCell ⟨g2, 6, none⟩ (.int .i64 bvx)).setCell ⟨g2, 7, none⟩ (.int .i64 bvy)).setCell ⟨g2, 8, none⟩ (.int .i64 ban)).setCell ⟨g2, 9, none⟩ (.int .i64 bsp)).setCell ⟨g2, 10, none⟩ (.int .i64 bde)).setCell ⟨g2, 11, none⟩ (.int .i64 0)).setCell ⟨g2, 12, none⟩ (.int .i64 bk)).setCell ⟨g2, 13, none⟩ (.int .i64 br)).setCell ⟨g2, 14, none⟩ (.slice ao bn bc) := ⟨_, rfl⟩
  have k9 : But (fun b => b = g2) wc W9 := by rw [eW9]; exact (But.rfl_ (fun b => b = g2) _).put15 (.inl rfl) (.int .i64 1) (.int .i64 0) (.int .i64 0) (.int .i64 0) (.int .i64 bx) (.int .i64 b_y) (.int .i64 bvx) (.int .i64 bvy) (.int .i64 ban) (.int .i64 bsp) (.int .i64 bde) (.int .i64 0) (.int .i64 bk) (.int .i64 br) (.slice ao bn bc)
  have HR9 : Has W9 g2 49 #[.int .i64 1, .int .i64 0, .int .i64 0, .int .i64 0, .int .i64 bx, .int .i64 b_y, .int .i64 bvx, .int .i64 bvy, .int .i64 ban, .int .i64 bsp, .int .i64 bde, .int .i64 0, .int .i64 bk, .int .i64 br, .slice ao bn bc] := by rw [eW9]; exact HR4.out.put15 (.int .i64 1) (.int .i64 0) (.int .i64 0) (.int .i64 0) (.int .i64 bx) (.int .i64 b_y) (.int .i64 bvx) (.int .i64 bvy) (.int .i64 ban) (.int .i64 bsp) (.int .i64 bde) (.int .i64 0) (.int .i64 bk) (.int .i64 br) (.slice ao bn bc)
  rw [← eW9]
  clear eW9 b0 b1 b2 b3 b4 b5 b6 b7 b8 b9 b10 b11 b12 b13 b14
  have q0 := HR9.at_ 0
  have q1 := HR9.at_ 1
  have q2 := HR9.at_ 2
  have q3 := HR9.at_ 3
  have q4 := HR9.at_ 4
  have q5 := HR9.at_ 5
  have q6 := HR9.at_ 6
  have q7 := HR9.at_ 7
  have q8 := HR9.at_ 8
  have q9 := HR9.at_ 9
  have q10 := HR9.at_ 10
  have q11 := HR9.at_ 11
  have q12 := HR9.at_ 12
  have q13 := HR9.at_ 13
  have q14 := HR9.at_ 14
  simp at q0 q1 q2 q3 q4 q5 q6 q7 q8 q9 q10 q11 q12 q13 q14
  refine bodyPost_ret (v := .agg #[.int .i64 1, .int .i64 0, .int .i64 0, .int .i64 0, .int .i64 bx, .int .i64 b_y, .int .i64 bvx, .int .i64 bvy, .int .i64 ban, .int .i64 bsp, .int .i64 bde, .int .i64 0, .int .i64 bk, .int .i64 br, .slice ao bn bc]) (by simp [results, Tryz.results69, go_sem, q0, q1, q2, q3, q4, q5, q6, q7, q8, q9, q10, q11, q12, q13, q14]) rfl ⟨ao, bc, ?_, ?_, HS.out.2.2.1, But.made_ K4.out k9 K4.out.1.size (fun b hb => by have hb : b = g2 := hb; have h := HG12.out; omega)⟩
  ·rw [ordOf_1 hKn]
  ·rw [ordOf_1 hKn]; exact fun hn => (by obtain ⟨b, off, e, hp⟩ := HS.out.2.1 hn; exact ⟨b, off, e, hp.but (kS.then_ k9) (by show ¬ b = g2; exact HS.out.2.2.2 hn b off none e)⟩)
end Go.Proofs.YtgdcphmmehedoaaGreat.Fx
/- The statements' Order of a deed. -/
namespace Go.Proofs.YtgdcphmmehedoaaGreat.Fx
open Go.ChangeShapes Go.WideShapes Go.ChangeAt Go.RowKit
set_option linter.unusedVariables false
theorem ordOf_i {K aq VX VY SP PX PY : Int} {j : Jt} {b : Bd} (h1 : I64 aq) (h2 : I64 VX) (h3 : I64 VY) (h4 : I64 SP) (h5 : I64 PX) (h6 : I64 PY) (hj : JtI j) (hb : BdI b) : OrI (ordOf K aq VX VY SP PX PY j b) := by
 have i0 : I64 0 := i64_0
 have i1 : I64 1 := by unfold I64; omega
 have i2 : I64 2 := by unfold I64; omega
 have i3 : I64 3 := by unfold I64; omega
 have i4 : I64 4 := by unfold I64; omega
 have i5 : I64 5 := by unfold I64; omega
 have i6 : I64 6 := by unfold I64; omega
 have c0 : Cin (fun _ => (0, 0)) 0 := fun i hi => absurd hi (by omega)
 obtain ⟨_, ja, jb, jax, jay, jtx, jty, jln⟩ := hj
 unfold ordOf
 split
 ·exact ⟨i5, h1, i0, i0, i0, i0, h2, h3, i0, h4, i0, i0, i0, i0, c0⟩
 ·split
  ·exact ⟨i4, h1, i0, i0, i0, i0, i0, i0, i0, i0, i0, i0, i0, i0, c0⟩
  ·split
   ·exact ⟨i3, i0, ja, jb, jax, jay, jtx, jty, i0, i0, i0, jln, i0, i0, c0⟩
   ·split
    ·exact ⟨i2, h1, i0, i0, i0, i0, i0, i0, i0, i0, i0, i0, i0, i0, c0⟩
    ·split
     ·exact ⟨i6, i0, i0, i0, i0, i0, h5, h6, i0, i0, i0, i0, i0, i0, c0⟩
     ·exact ⟨i1, i0, i0, i0, hb.x, hb.y, hb.vx, hb.vy, hb.an, hb.sp, hb.de, i0, hb.k, hb.r, hb.f⟩
theorem dorder_c2 (d : De) (hi : DeI d) : ∃ bd, BdI bd ∧ (bd.n ≤ 8 ∨ bd.n = d.rn) ∧ (∀ w, Sl w d.rao d.rn d.rf → Calls Tryz.prog 48 #[deV d] w fun e v => ∃ ao c, e = .returned (bodyV bd.id bd.x bd.y bd.vx bd.vy bd.an bd.sp bd.de bd.k bd.r (.slice ao bd.n c)) ∧ Sl v ao bd.n bd.f ∧ ((ao = none ∧ bd.n = 0 ∧ c = 0) ∨ ∃ a, ao = some a) ∧ Made w.heap.size w v) ∧ ∀ w, Sl w d.rao d.rn d.rf → Calls Tryz.prog 69 #[deV d] w (Ans1 (fun ao c => ((ao = none ∧ bd.n = 0 ∧ c = 0) ∨ ∃ a, ao = some a) ∧ ((ao = d.rao ∧ bd.n = d.rn) ∨ ∀ b off s, ao = some ⟨b, off, s⟩ → w.heap.size ≤ b)) w (d.kd % 8) (d.a % 16) (bringF d.vx (negF 858993459200) 858993459200) (bringF d.vy (negF 858993459200) 858993459200) (bringF d.sp (-858993459200) 858993459200) (bringF d.vx (negF 214748364800) 214748364800) (bringF d.vy (negF 214748364800) 214748364800) (jointOf d) bd) := by
 obtain ⟨bd, hb, hbn, hB⟩ := dbodyM_c d hi
 refine ⟨bd, hb, hbn, fun w hs => (hB w hs).mono fun _ _ ⟨ao, c, h1, h2, h3, h4, _⟩ => ⟨ao, c, h1, h2, h3, h4⟩, fun w hs => ?_⟩
 have hBo : ∀ v, Made w.heap.size w v → Calls Tryz.prog 48 #[.agg (encD d).toArray] v fun e u => ∃ ao bc, e = .returned (bodyV bd.id bd.x bd.y bd.vx bd.vy bd.an bd.sp bd.de bd.k bd.r (.slice ao bd.n bc)) ∧ Sl u ao bd.n bd.f ∧ (fun ao c => ((ao = none ∧ bd.n = 0 ∧ c = 0) ∨ ∃ a, ao = some a) ∧ ((ao = d.rao ∧ bd.n = d.rn) ∨ ∀ b off s, ao = some ⟨b, off, s⟩ → w.heap.size ≤ b)) ao bc ∧ Made v.heap.size v u ∧ (0 < bd.n → ∀ b off s, ao = some ⟨b, off, s⟩ → b < w.heap.size ∨ v.heap.size ≤ b) := by
  intro v k
  refine (hB v (fun hn => by obtain ⟨b, off, e, hp⟩ := hs hn; exact ⟨b, off, e, hp.kept k⟩)).mono ?_
  rintro e u ⟨ao, c, rfl, h1, h2, h3, h4⟩
  refine ⟨ao, c, rfl, h1, ⟨h2, h4.imp id (fun h b off s e => Nat.le_trans k.1.size (h b off s e))⟩, h3, fun hn b off s e => ?_⟩
  rcases h4 with ⟨h5, h6⟩ | h5
  ·obtain ⟨b', off', e', hp⟩ := hs (by omega)
   rw [h5, e'] at e
   cases e
   exact .inl (World.block_lt_of_cell? _ _ (hp 0 (by omega)).1)
  ·exact .inr (h5 b off s e)
 by_cases h1 : d.kd % 8 = 2 ∨ d.kd % 8 = 3
 ·exact dorder_a (encD d).toArray d.kd d.vx d.vy d.sp d.a _ _ _ _ _ _ _ rfl rfl rfl rfl rfl rfl bd.id bd.x bd.y bd.vx bd.vy bd.an bd.sp bd.de bd.k bd.r bd.ao bd.n bd.c bd.f (jointOf d).id (jointOf d).a (jointOf d).b (jointOf d).ax (jointOf d).ay (jointOf d).tx (jointOf d).ty (jointOf d).ln w rfl rfl h1 hi.vx hi.vy hi.sp rfl rfl rfl rfl rfl hBo (fun v => djoint_c d hi v)
 by_cases h2 : d.kd % 8 = 4 ∨ d.kd % 8 = 5
 ·exact dorder_b (encD d).toArray d.kd d.vx d.vy d.sp d.a _ _ _ _ _ _ _ rfl rfl rfl rfl rfl rfl bd.id bd.x bd.y bd.vx bd.vy bd.an bd.sp bd.de bd.k bd.r bd.ao bd.n bd.c bd.f (jointOf d).id (jointOf d).a (jointOf d).b (jointOf d).ax (jointOf d).ay (jointOf d).tx (jointOf d).ty (jointOf d).ln w rfl rfl h2 hi.vx hi.vy hi.sp rfl rfl rfl rfl rfl hBo (fun v => djoint_c d hi v)
 by_cases h3 : d.kd % 8 = 6 ∨ d.kd % 8 = 7
 ·exact dorder_d (encD d).toArray d.kd d.vx d.vy d.sp d.a _ _ _ _ _ _ _ rfl rfl rfl rfl rfl rfl bd.id bd.x bd.y bd.vx bd.vy bd.an bd.sp bd.de bd.k bd.r bd.ao bd.n bd.c bd.f (jointOf d).id (jointOf d).a (jointOf d).b (jointOf d).ax (jointOf d).ay (jointOf d).tx (jointOf d).ty (jointOf d).ln w rfl rfl h3 hi.vx hi.vy hi.sp rfl rfl rfl rfl rfl hBo (fun v => djoint_c d hi v)
 exact dorder_e (encD d).toArray d.kd d.vx d.vy d.sp d.a _ _ _ _ _ _ _ rfl rfl rfl rfl rfl rfl bd.id bd.x bd.y bd.vx bd.vy bd.an bd.sp bd.de bd.k bd.r bd.ao bd.n bd.c bd.f (jointOf d).id (jointOf d).a (jointOf d).b (jointOf d).ax (jointOf d).ay (jointOf d).tx (jointOf d).ty (jointOf d).ln w rfl rfl (by omega) hi.vx hi.vy hi.sp rfl rfl rfl rfl rfl hBo (fun v => djoint_c d hi v)
end Go.Proofs.YtgdcphmmehedoaaGreat.Fx
/- The order of a deed, packed; orders as letters. -/
namespace Go.Proofs.YtgdcphmmehedoaaGreat.Fx
open Go.ChangeShapes Go.WideShapes Go.ChangeAt Go.RowKit
set_option linter.unusedVariables false
def Or.on (o : Or) (ao : Option Addr) (c : Nat) : Or := { o with ao := ao, c := c }
theorem encO_one (o : Or) : ∀ v ∈ encO o, v.oneCell' = true := by
 intro v hv; simp [encO] at hv; rcases hv with rfl | rfl | rfl | rfl | rfl | rfl | rfl | rfl | rfl | rfl | rfl | rfl | rfl | rfl | rfl <;> rfl
theorem ordOf_else {K aq VX VY SP PX PY : Int} {j : Jt} (b : Bd) (h : ¬ ((¬ K = 2 ∧ ¬ K = 3 ∧ ¬ (K = 4 ∨ K = 5)) ∧ ¬ K = 6 ∧ ¬ K = 7)) (ao : Option Addr) (c : Nat) :
  ordOf K aq VX VY SP PX PY j { b with ao := ao, c := c } = (ordOf K aq VX VY SP PX PY j b).on none 0 ∧ (ordOf K aq VX VY SP PX PY j b).n = 0 := by
 have h : K = 2 ∨ K = 3 ∨ K = 4 ∨ K = 5 ∨ K = 6 ∨ K = 7 := by omega
 rcases h with rfl | rfl | rfl | rfl | rfl | rfl <;> simp [ordOf, Or.on]
def OrdV (O : Or) (B lo hi : Nat) (v : World) (x : Value) : Prop := ∃ ao c, x = .agg (encO (O.on ao c)).toArray ∧ Sl v ao O.n O.f ∧ ((ao = none ∧ O.n = 0 ∧ c = 0) ∨ ∃ a, ao = some a) ∧ (0 < O.n → ∀ b off s, ao = some ⟨b, off, s⟩ → b < B ∨ (lo ≤ b ∧ b < hi))
theorem OrdV.kept {O : Or} {B lo hi : Nat} {u v : World} {x : Value} (h : OrdV O B lo hi u x) (k : Made u.heap.size u v) : OrdV O B lo hi v x := by
 obtain ⟨ao, c, e, hs, ho⟩ := h
 exact ⟨ao, c, e, fun hn => (by obtain ⟨b, off, e', hp⟩ := hs hn; exact ⟨b, off, e', hp.kept k⟩), ho⟩
theorem ordOf_not1 {K aq VX VY SP PX PY : Int} {j : Jt} {b : Bd} (h : ¬ ((¬ K = 2 ∧ ¬ K = 3 ∧ ¬ (K = 4 ∨ K = 5)) ∧ ¬ K = 6 ∧ ¬ K = 7)) : (ordOf K aq VX VY SP PX PY j b).kd ≠ 1 := by
 have h : K = 2 ∨ K = 3 ∨ K = 4 ∨ K = 5 ∨ K = 6 ∨ K = 7 := by omega
 rcases h with rfl | rfl | rfl | rfl | rfl | rfl <;> simp [ordOf]
theorem ordOf_joint {K aq VX VY SP PX PY : Int} {j : Jt} {b : Bd} (h : (ordOf K aq VX VY SP PX PY j b).kd = 3) : j = { jointOr (ordOf K aq VX VY SP PX PY j b) with id := j.id } := by
 unfold ordOf at h ⊢
 split at h
 ·simp at h
 ·split at h
  ·simp at h
  ·split at h
   ·rename_i h1 h2 h3
    rw [if_neg h1, if_neg h2, if_pos h3]
    rfl
   ·split at h
    ·simp at h
    ·split at h
     ·simp at h
     ·simp at h
def BodyO (d : De) (O : Or) : Prop := O.kd = 1 → ∃ bi, I64 bi ∧ ∀ w, Sl w d.rao d.rn d.rf → Calls Tryz.prog 48 #[.agg (encD d).toArray] w fun e v => ∃ ao c, e = .returned (bodyV bi O.x O.y O.vx O.vy O.an O.sp O.de O.k O.r (.slice ao O.n c)) ∧ Sl v ao O.n O.f ∧ ((ao = none ∧ O.n = 0 ∧ c = 0) ∨ ∃ a, ao = some a) ∧ Made w.heap.size w v
def JointO (d : De) (O : Or) : Prop := O.kd = 3 → jointOf d = { jointOr O with id := (jointOf d).id }
theorem order_mk2 (d : De) (hi : DeI d) : ∃ O : Or, OrI O ∧ (O.n ≤ 8 ∨ O.n = d.rn) ∧ BodyO d O ∧ JointO d O ∧ ∀ (B : Nat) (w : World), Sl w d.rao d.rn d.rf → (0 < d.rn → ∀ b off s, d.rao = some ⟨b, off, s⟩ → b < B) → Calls Tryz.prog 69 #[.agg (encD d).toArray] w fun e v => ∃ x, e = .returned x ∧ OrdV O B w.heap.size v.heap.size v x ∧ Made w.heap.size w v := by
 obtain ⟨bd, hbd, hbn, hBo, hB⟩ := dorder_c2 d hi
 have iM : I64 858993459200 := by unfold I64; omega
 have iN : I64 (-858993459200) := by unfold I64; omega
 have jM : I64 214748364800 := by unfold I64; omega
 have jN : I64 (-214748364800) := by unfold I64; omega
 have hO : OrI (ordOf (d.kd % 8) (d.a % 16) (bringF d.vx (negF 858993459200) 858993459200) (bringF d.vy (negF 858993459200) 858993459200) (bringF d.sp (-858993459200) 858993459200) (bringF d.vx (negF 214748364800) 214748364800) (bringF d.vy (negF 214748364800) 214748364800) (jointOf d) bd) :=
  ordOf_i (by unfold I64; omega) (bring_I hi.vx (by exact iN) iM) (bring_I hi.vy (by exact iN) iM) (bring_I hi.sp iN iM) (bring_I hi.vx (by exact jN) jM) (bring_I hi.vy (by exact jN) jM) (jointOf_i hi) hbd
 by_cases h : (¬ d.kd % 8 = 2 ∧ ¬ d.kd % 8 = 3 ∧ ¬ (d.kd % 8 = 4 ∨ d.kd % 8 = 5)) ∧ ¬ d.kd % 8 = 6 ∧ ¬ d.kd % 8 = 7
 ·refine ⟨_, hO, ?_, fun _ => ⟨bd.id, hbd.id, fun w hs => ?_⟩, fun h3 => ?_, fun B w hs hb => (hB w hs).mono ?_⟩
  ·rw [ordOf_1 h]; exact hbn
  ·rw [ordOf_1 h]; exact hBo w hs
  ·rw [ordOf_1 h] at h3; simp at h3
  ·rintro e v ⟨ao, c, rfl, h1, ⟨h2, h4⟩, h3⟩
   rw [ordOf_1 h] at h1
   have h1 : Sl v ao bd.n bd.f := h1
   refine ⟨_, rfl, ⟨ao, c, ?_, ?_, ?_, ?_⟩, h3⟩
   ·rw [ordOf_1 h, ordOf_1 h]; rfl
   ·rw [ordOf_1 h]; exact h1
   ·rw [ordOf_1 h]; exact h2
   ·rw [ordOf_1 h]
    intro hn b off s e
    have hn : 0 < bd.n := hn
    rcases h4 with ⟨h5, h6⟩ | h5
    ·exact .inl (hb (by omega) b off s (by rw [← h5]; exact e))
    ·refine .inr ⟨h5 b off s e, ?_⟩
     obtain ⟨b', off', e', hp⟩ := h1 hn
     rw [e] at e'
     cases e'
     exact World.block_lt_of_cell? _ _ (hp 0 hn).1
 ·refine ⟨_, hO, .inl ?_, fun h1 => ?_, fun h3 => ?_, fun B w hs hb => (hB w hs).mono ?_⟩
  ·rw [(ordOf_else bd h none 0).2]; omega
  ·exact absurd h1 (ordOf_not1 h)
  ·exact ordOf_joint h3
  ·rintro e v ⟨ao, c, rfl, h1, h2, h3⟩
   refine ⟨_, rfl, ⟨none, 0, ?_, fun hn => ?_, .inl ⟨rfl, (ordOf_else bd h none 0).2, rfl⟩, fun hn b off s e => by cases e⟩, h3⟩
   ·rw [(ordOf_else bd h ao c).1]; rfl
   ·rw [(ordOf_else bd h none 0).2] at hn; omega
end Go.Proofs.YtgdcphmmehedoaaGreat.Fx