/- SoR -/
import Derived.Test.YtjhcejmfiekjgaaGreatSt26
import Derived.Test.YtjhcejmfiekjgaaGreatSt28
set_option maxRecDepth 100000
set_option maxHeartbeats 64000000
/- The walk of solve.Solve. -/
namespace Go.Proofs.YtjhcejmfiekjgaaGreat.Fx
open Go.ChangeShapes Go.WideShapes Go.ChangeAt Go.RowKit
set_option linter.unusedVariables false
theorem RowL.blw {α : Type} {enc : α → List Value} {k : Nat} {w v : World} {g n : Nat} {t : TypeId} {l : List α} {B : Nat} (h : RowL enc k w g t n l) (kk : Below B w v) (hB : g < B) : RowL enc k v g t n l := by
 obtain ⟨h0, A, hA, hr⟩ := h
 exact ⟨h0, A, hA.below kk hB, hr⟩
theorem presses_nil (c0 c1 : Value) (w : World) : Calls Tryz.prog 44 #[.agg #[c0, c1], .slice none 0 0] w fun e w' => e = .returned (.slice none 0 0) ∧ Made w.heap.size w w' := by
 have HB0 : Hid (Made w.heap.size w (w.alloc (.cells #[c0, c1] 79))) := (Made.rfl_ _ _).cells (Nat.le_refl _) _ _
 go_enter Tryz.func44, Tryz.ntmps44
 go_wp2_with fail
 go_loopg [5, 12] 0 (fun gg s5 s12 wx => s12 = .int .i64 0 ∧ s5 = .slice none 0 0 ∧ Hid (Made w.heap.size w wx))
 case atStart => exact ⟨by first | rfl | trivial, rfl, HB0.out⟩
 case round =>
  obtain ⟨rfl, rfl, HB⟩ := hrel
  go_wp2_with fail
  go_ret
  exact ⟨rfl, HB.out⟩
theorem holds_nil (c0 c1 : Value) (w : World) : Calls Tryz.prog 45 #[.agg #[c0, c1], .slice none 0 0] w fun e w' => e = .returned (.slice none 0 0) ∧ Made w.heap.size w w' := by
 have HB0 : Hid (Made w.heap.size w (w.alloc (.cells #[c0, c1] 79))) := (Made.rfl_ _ _).cells (Nat.le_refl _) _ _
 go_enter Tryz.func45, Tryz.ntmps45
 go_wp2_with fail
 go_loopg [5, 12] 0 (fun gg s5 s12 wx => s12 = .int .i64 0 ∧ s5 = .slice none 0 0 ∧ Hid (Made w.heap.size w wx))
 case atStart => exact ⟨by first | rfl | trivial, rfl, HB0.out⟩
 case round =>
  obtain ⟨rfl, rfl, HB⟩ := hrel
  go_wp2_with fail
  go_ret
  exact ⟨rfl, HB.out⟩
def RowsV (w : World) (sv : Value) (m gr : Nat) (tR : TypeId) (R : List Ro) : Prop :=
 R.length = m ∧ ((m = 0 ∧ sv = .slice none 0 0) ∨ ∃ c, sv = .slice (some ⟨gr, 0, none⟩) m c ∧ m ≤ c ∧ c ≤ maxLen ∧ RowL encR 14 w gr tR m R)
def TiesV (w : World) (tv : Value) (q : Nat) (T : List Ti) : Prop :=
 T.length = q ∧ ((q = 0 ∧ tv = .slice none 0 0) ∨ ∃ gt ot c, tv = .slice (some ⟨gt, ot, none⟩) q c ∧ q ≤ c ∧ c ≤ maxLen ∧ gt < w.heap.size ∧ LsB encTi 10 w gt ot T)
theorem presses_v {w : World} {sv : Value} {m gr gb gm n cb cm : Nat} {tR : TypeId} {L : List Bd} {R : List Ro} (h : RowsV w sv m gr tR R) (hM : LsB encM 4 w gm 0 L) (hgm : gm < w.heap.size) (hn : L.length = n) (hv : ∀ r ∈ R, r.a < n ∧ r.b < n) (hmx : m ≤ 1073741824) :
  Calls Tryz.prog 44 #[.agg #[.slice (some ⟨gb, 0, none⟩) n cb, .slice (some ⟨gm, 0, none⟩) n cm], sv] w fun e w' => ∃ op cp, e = .returned (.slice op m cp) ∧ Made w.heap.size w w' ∧ w'.ownsRow w.heap.size 112 15 (.slice op m cp) m (flatE (encPr gr gb) (presL L R)) := by
 obtain ⟨hm, ⟨rfl, rfl⟩ | ⟨c, rfl, h1, h2, h3⟩⟩ := h
 ·refine (presses_nil _ _ w).mono ?_
  rintro e v ⟨rfl, k⟩
  have e0 : presL L R = [] := by rw [← List.length_eq_zero_iff, pres_len]; exact hm
  rw [e0]
  exact ⟨none, 0, rfl, k, World.ownsRow_nil _ _ _ _⟩
 ·exact presses_c hM hgm hn h3 hv hmx h1 h2
theorem holds_v {w : World} {tv : Value} {q gb gm n cb cm : Nat} {L : List Bd} {T : List Ti} (h : TiesV w tv q T) (hM : LsB encM 4 w gm 0 L) (hgm : gm < w.heap.size) (hn : L.length = n) (hv : ∀ t ∈ T, t.a < n ∧ t.b < n) (hmx : q ≤ 1073741824) :
  Calls Tryz.prog 45 #[.agg #[.slice (some ⟨gb, 0, none⟩) n cb, .slice (some ⟨gm, 0, none⟩) n cm], tv] w fun e w' => ∃ op cp, e = .returned (.slice op q cp) ∧ Made w.heap.size w w' ∧ w'.ownsRow w.heap.size 114 24 (.slice op q cp) q (flatE (encHo gb) (holdL L T)) := by
 obtain ⟨hm, ⟨rfl, rfl⟩ | ⟨gt, ot, c, rfl, h1, h2, h3, h4⟩⟩ := h
 ·refine (holds_nil _ _ w).mono ?_
  rintro e v ⟨rfl, k⟩
  have e0 : holdL L T = [] := by rw [← List.length_eq_zero_iff, hold_len]; exact hm
  rw [e0]
  exact ⟨none, 0, rfl, k, World.ownsRow_nil _ _ _ _⟩
 ·exact holds_c hM hgm hn h4 h3 hm hv hmx h1 h2
theorem RowsV.kept {w v : World} {sv : Value} {m gr B : Nat} {tR : TypeId} {R : List Ro} (h : RowsV w sv m gr tR R) (k : Below B w v) (hB : gr < B) : RowsV v sv m gr tR R :=
 ⟨h.1, h.2.imp id fun ⟨c, e, h1, h2, h3⟩ => ⟨c, e, h1, h2, h3.blw k hB⟩⟩
theorem TiesV.kept {w v : World} {tv : Value} {q : Nat} {T : List Ti} (h : TiesV w tv q T) (k : Below w.heap.size w v) : TiesV v tv q T :=
 ⟨h.1, h.2.imp id fun ⟨gt, ot, c, e, h1, h2, h3, h4⟩ => ⟨gt, ot, c, e, h1, h2, Nat.lt_of_lt_of_le h3 k.size, h4.below k h3⟩⟩
theorem RowsV.row {w : World} {sv : Value} {m gr : Nat} {tR : TypeId} {R : List Ro} (h : RowsV w sv m gr tR R) (hm : 0 < m) : RowL encR 14 w gr tR m R := by
 obtain ⟨_, ⟨h0, _⟩ | ⟨c, _, _, _, h3⟩⟩ := h
 ·omega
 ·exact h3
def alPH (B m q gr gb : Nat) (L : List Bd) (R : List Ro) (T : List Ti) (i : Nat) (v : World) (g : Nat) (e : MY.Ex) : Prop :=
 if i = 2 then ∃ op cp, e.v = .slice op m cp ∧ v.ownsRow B 112 15 (.slice op m cp) m (flatE (encPr gr gb) (presL L R)) else ∃ op cp, e.v = .slice op q cp ∧ v.ownsRow B 114 24 (.slice op q cp) q (flatE (encHo gb) (holdL L T))
theorem alPH_lasts (B m q gr gb : Nat) (L : List Bd) (R : List Ro) (T : List Ti) : MY.Lasts (alPH B m q gr gb L R T) := fun i u v g e h hh k => by
 unfold alPH at *
 split at h
 ·rename_i hi; rw [if_pos hi]
  obtain ⟨op, cp, e1, h1⟩ := h
  exact ⟨op, cp, e1, own_stays h1 k⟩
 ·rename_i hi; rw [if_neg hi]
  obtain ⟨op, cp, e1, h1⟩ := h
  exact ⟨op, cp, e1, own_stays h1 k⟩
def valPH (i g : Nat) (e : MY.Ex) : Value := e.v
structure Sv (W w : World) (gb n gr m : Nat) (tB tR : TypeId) (L : List Bd) (R : List Ro) : Prop where
 b : RowL encB 11 w gb tB n L
 r : 0 < m → RowL encR 14 w gr tR m R
 k : But (fun x => x = gb ∨ (x = gr ∧ 0 < m)) W w
theorem Sv.mk2 {W w v : World} {gb n gr m : Nat} {tB tR : TypeId} {L : List Bd} {R : List Ro} (h : Sv W w gb n gr m tB tR L R) (k : Made w.heap.size w v) : Sv W v gb n gr m tB tR L R :=
 ⟨h.b.stays k h.b.here, fun hm => (h.r hm).stays k (h.r hm).here, h.k.then_ (Made.but k)⟩
theorem solve_c {X : Nat → Prop} {L : List Bd} {R : List Ro} {T : List Ti} {ob : Option Addr} {n cb m gr q : Nat} {tR : TypeId} {sv tv : Value} {w : World} (hL : WLs X w ob cb L none 0 [] none 0 []) (hn : L.length = n) (h0 : 0 < n) (hmx : n ≤ 1073741824) (hP : ∀ b ∈ L, BodyP b) (hI : ∀ b ∈ L, BdI b)
  (hR : RowsV w sv m gr tR R) (hgr : gr < w.heap.size) (hT : TiesV w tv q T) (hRI : ∀ r ∈ R, RoI r ∧ r.a < n ∧ r.b < n) (hTI : ∀ t ∈ T, TiI t ∧ t.a < n ∧ t.b < n) (hm2 : m ≤ 1073741824) (hq2 : q ≤ 1073741824) :
  Calls Tryz.prog 20 #[.slice ob n cb, sv, tv] w fun e v => ∃ gb cb' B', e = .returned (.slice (some ⟨gb, 0, none⟩) n cb') ∧ n ≤ cb' ∧ cb' ≤ maxLen ∧ w.heap.size ≤ gb ∧ SameBs L B' ∧ RowL encB 11 v gb 43 n (solveS B' R T).1 ∧ (0 < m → RowL encR 14 v gr tR m (solveS B' R T).2) ∧ BuB (fun x => x = gr ∧ 0 < m) w v ∧ ∀ b ∈ B', Sl v b.ao b.n b.f := by
 have HC := hid (copied_c hL hn hmx (fun b hb => right_n (hP b hb).shape))
 have HN := hid hn
 have HP := hid hP; have HI := hid hI
 have HR := hid hR; have HT := hid hT
 have HRI := hid hRI; have HTI := hid hTI
 have HG := hid hgr
 clear hL hn hP hI hR hT hRI hTI hgr
 go_enter Tryz.func20, Tryz.ntmps20
 go_wp2_with fail
 refine HC.out.mono ?_
 rintro e w1 ⟨ob', cb', B', rfl, k1, hs, hB, hMi⟩
 obtain ⟨gb, rfl, hrow⟩ := hB.row h0
 have hbd : w.heap.size ≤ gb := hB.fresh gb 0 none rfl
 have hBP : ∀ b ∈ B', BodyP b := fun b hb => by
  obtain ⟨b0, hb0, h⟩ := same_in hs hb
  exact h.ok (HP.out b0 hb0)
 have hBI : ∀ b ∈ B', BdI b := fun b hb => by
  obtain ⟨b0, hb0, h⟩ := same_in hs hb
  exact h.bdI (HI.out b0 hb0)
 have HW := hid (weighed_c (w := w1) hB.len hB.ls ⟨hB.nc, hB.cm, hB.ok⟩ hBI hBP (fun b hb => (hMi b hb).1) hmx)
 have HS := hid hs
 have HBI : Hid (LI B') := fun j b hb => hBI b (List.mem_of_getElem? hb)
 have HBL := hid hB.len
 have HNC := hid (And.intro hB.nc hB.cm)
 have HRow := hid hrow
 have HK1 := hid k1
 have HSl : Hid (∀ u, Below w1.heap.size w1 u → ∀ v, BuB (fun x => x = gb ∨ (x = gr ∧ 0 < m)) u v → ∀ b ∈ B', Sl v b.ao b.n b.f) := fun u ku v kv b hb => by
  obtain ⟨h1, h2⟩ := hMi b hb
  refine Sl.bub (Sl.blw h1 ku) kv (fun hn => ?_)
  rcases h2 with ⟨_, h3, _⟩ | ⟨g, e, h3, h4, h5, _⟩
  ·omega
  ·intro b' off s e' hx
   rw [e] at e'
   cases e'
   have hgw := HG.out
   rcases hx with hx | ⟨hx, _⟩
   ·exact h4 (by rw [hx])
   ·omega
 clear HC hs hB hMi hBP hBI hrow k1
 go_wp2_with fail
 refine HW.out.mono ?_
 rintro e w2 ⟨om, cm, rfl, k2, hmass⟩
 obtain ⟨gm, cm', em, hgm1, hcm1, hcm2, hrm⟩ := RowL.of_own encM_len HBL.out hmass h0
 cases em
 have HRow2 := hid (HRow.out.blw k2 HRow.out.here)
 have HR2 := hid ((HR.out.kept HK1.out.1 HG.out).kept k2 (Nat.lt_of_lt_of_le HG.out HK1.out.1.size))
 have HT2 := hid ((HT.out.kept HK1.out.1).kept k2)
 have HZ2 := hid k2
 have HB2 : Hid (Below w.heap.size w w2) := HK1.out.1.trans (k2.mono HK1.out.1.size)
 have hgb1 : gb < w1.heap.size := HRow.out.here
 have hgm2 : gm < w2.heap.size := hrm.here
 have HML := hid hrm.lsB
 have hgrb : gr < w.heap.size := HG.out
 clear HW HRow HR HT HK1 k2 hmass hrm
 go_upto_region 2 with fail
 obtain ⟨W2, e2⟩ : ∃ W, W = w2.alloc (.cells #[.slice (some ⟨gb, 0, none⟩) n cb', .slice (some ⟨gm, 0, none⟩) n cm] 79) := ⟨_, rfl⟩
 obtain ⟨g7, eg7⟩ : ∃ g, w2.heap.size = g := ⟨_, rfl⟩
 have HV2 : Hid (Has W2 g7 79 #[.slice (some ⟨gb, 0, none⟩) n cb', .slice (some ⟨gm, 0, none⟩) n cm]) := by unfold Hid; rw [e2, ← eg7]; exact has_new _ _ _
 have k3 : Made w2.heap.size w2 W2 := by rw [e2]; exact (Made.rfl_ _ _).cells (Nat.le_refl _) _ _
 have HRow3 := hid (HRow2.out.stays k3 HRow2.out.here)
 have HR3 := hid (HR2.out.kept k3.1 (by have := HB2.out.size; omega))
 have HT3 := hid (HT2.out.kept k3.1)
 have HZ3 := hid (HZ2.out.trans (k3.1.mono HZ2.out.size))
 have HB3 : Hid (Below w.heap.size w W2) := HB2.out.trans (k3.1.mono HB2.out.size)
 have HML3 := hid (HML.out.below k3.1 hgm2)
 have hgm3 : gm < W2.heap.size := Nat.lt_of_lt_of_le hgm2 k3.1.size
 have hl7 : g7 < W2.heap.size := HV2.out.here
 have hrb3 : gr < W2.heap.size := by have := HB3.out.size; omega
 have hg7b : g7 ≠ gb := by have := HRow2.out.here; omega
 have hg7r : g7 ≠ gr := by have := HB2.out.size; omega
 have hgrgb : gr ≠ gb := by omega
 have hszz : (Tryz.prog.info? 79).map (·.size) = some 2 := by kernel_rfl
 try rw [← e2]
 try rw [eg7]
 clear e2 k3 HRow2 HR2 HT2 HB2 HML
 have mkp : Hid (∀ (G' : Nat → Option (Nat × MY.Ex)) (u : World), MY.Cm W2 (alPH W2.heap.size m q gr gb B' R T) G' u → Calls Tryz.prog 44 #[.agg #[.slice (some ⟨gb, 0, none⟩) n cb', .slice (some ⟨gm, 0, none⟩) n cm], sv] u fun e v => ∃ op cp, e = .returned (.slice op m cp) ∧ Made u.heap.size u v ∧ v.ownsRow W2.heap.size 112 15 (.slice op m cp) m (flatE (encPr gr gb) (presL B' R))) := fun G' u hu => by
  refine (presses_v (HR3.out.kept hu.1.1 hrb3) (HML3.out.below hu.1.1 hgm3) (Nat.lt_of_lt_of_le hgm3 hu.1.1.size) HBL.out (fun r hr => (HRI.out r hr).2) hm2).mono ?_
  rintro e v ⟨op, cp, rfl, k, h⟩
  refine ⟨op, cp, rfl, k, h.1, h.2.imp id ?_⟩
  rintro ⟨g, cap, cur, e, hg, r⟩
  exact ⟨g, cap, cur, e, Nat.le_trans hu.1.1.size hg, r⟩
 have mkh : Hid (∀ (G' : Nat → Option (Nat × MY.Ex)) (u : World), MY.Cm W2 (alPH W2.heap.size m q gr gb B' R T) G' u → Calls Tryz.prog 45 #[.agg #[.slice (some ⟨gb, 0, none⟩) n cb', .slice (some ⟨gm, 0, none⟩) n cm], tv] u fun e v => ∃ op cp, e = .returned (.slice op q cp) ∧ Made u.heap.size u v ∧ v.ownsRow W2.heap.size 114 24 (.slice op q cp) q (flatE (encHo gb) (holdL B' T))) := fun G' u hu => by
  refine (holds_v (HT3.out.kept hu.1.1) (HML3.out.below hu.1.1 hgm3) (Nat.lt_of_lt_of_le hgm3 hu.1.1.size) HBL.out (fun t ht => (HTI.out t ht).2) hq2).mono ?_
  rintro e v ⟨op, cp, rfl, k, h⟩
  refine ⟨op, cp, rfl, k, h.1, h.2.imp id ?_⟩
  rintro ⟨g, cap, cur, e, hg, r⟩
  exact ⟨g, cap, cur, e, Nat.le_trans hu.1.1.size hg, r⟩
 refine MY.reg_mk (alPH W2.heap.size m q gr gb B' R T) 6 [0, 1, 3, 4, 2, 5] [0, 1, 3, 4] [2, 5] [] (fun _ => []) (val := valPH) (by kernel_rfl) (by kernel_rfl) (fun p hp => absurd hp (by simp)) ?_
 refine MY.can_class (rest := [2, 5]) [0, 1, 3, 4] [] 72 (alPH_lasts _ _ _ _ _ _ _ _) (MY.any_class _) (by kernel_rfl) rfl (by kernel_rfl) (by kernel_rfl) ?_
 apply Exists.intro
 refine ⟨?r1, ?r2⟩
 case r1 =>
  intro Ty hTT fw hf _
  have c0 := Class.reads hf (p := ⟨g7, 0, none⟩) (u := .slice (some ⟨gb, 0, none⟩) n cb') (by rw [HV2.out.at_]; rfl)
  have c1 := Class.reads hf (p := ⟨g7, 1, none⟩) (u := .slice (some ⟨gm, 0, none⟩) n cm) (by rw [HV2.out.at_]; rfl)
  change wpQuiet _ _ _ _ [_, _, _, _] _
  repeat (go_big_quiet_step (fail))
  exact wpQuiet_nil rfl
 refine MY.can_mk 2 22 _ rfl rfl rfl (by rfl) ?m2 fun q2 e2 => ?n2
 case m2 =>
  intro G' u _ hu
  rw [show (execOp _ _).run Tryz.prog u = .ok (.enter 44 #[.agg #[.slice (some ⟨gb, 0, none⟩) n cb', .slice (some ⟨gm, 0, none⟩) n cm], sv]) u by kernel_rfl]
  show Calls _ _ _ _ _
  refine (mkp.out G' u hu).mono ?_
  rintro e v ⟨op, cp, rfl, h2, h1⟩
  exact ⟨u.heap.size, ⟨v.heap.size, .slice op m cp⟩, rfl, hu.next (alPH_lasts _ _ _ _ _ _ _ _) h2 (Nat.le_refl _) h2.1.size (Nat.le_refl _) (by unfold alPH; rw [if_pos rfl]; exact ⟨op, cp, rfl, h1⟩)⟩
 rw [show valPH 2 q2 e2 = e2.v from rfl]
 simp only [Act.put, List.setIfInBounds_toArray, List.set_cons_succ, List.set_cons_zero]
 refine MY.can_mk 5 25 _ rfl rfl rfl (by rfl) ?m5 fun q5 e5 => ?n5
 case m5 =>
  intro G' u _ hu
  rw [show (execOp _ _).run Tryz.prog u = .ok (.enter 45 #[.agg #[.slice (some ⟨gb, 0, none⟩) n cb', .slice (some ⟨gm, 0, none⟩) n cm], tv]) u by kernel_rfl]
  show Calls _ _ _ _ _
  refine (mkh.out G' u hu).mono ?_
  rintro e v ⟨op, cp, rfl, h2, h1⟩
  exact ⟨u.heap.size, ⟨v.heap.size, .slice op q cp⟩, rfl, hu.next (alPH_lasts _ _ _ _ _ _ _ _) h2 (Nat.le_refl _) h2.1.size (Nat.le_refl _) (by unfold alPH; rw [if_neg (by omega)]; exact ⟨op, cp, rfl, h1⟩)⟩
 rw [show valPH 5 q5 e5 = e5.v from rfl]
 simp only [Act.put, List.setIfInBounds_toArray, List.set_cons_succ, List.set_cons_zero]
 intro w9 hu
 obtain ⟨_, _, _, h2⟩ := hu.2.1 2 (q2, e2) (by unfold MY.upd; simp)
 obtain ⟨_, _, _, h5⟩ := hu.2.1 5 (q5, e5) (by unfold MY.upd; simp)
 unfold alPH at h2 h5
 rw [if_pos rfl] at h2
 rw [if_neg (by omega)] at h5
 obtain ⟨op, cp, ev2, h2⟩ := h2
 obtain ⟨oh, ch, ev5, h5⟩ := h5
 simp only at ev2 ev5
 rw [ev2, ev5]
 have k9 := hu.1
 have HV9 := hid (HV2.out.stays k9 hl7)
 have HRow9 := hid (HRow3.out.stays k9 HRow3.out.here)
 have HR9 := hid (HR3.out.kept k9.1 hrb3)
 have HZ9 := hid (HZ3.out.trans (k9.1.mono HZ3.out.size))
 have HB9 : Hid (Below w.heap.size w w9) := HB3.out.trans (k9.1.mono HB3.out.size)
 have HPs : Hid (LsT (encPr gr gb) 15 w9 op (presL B' R) ∧ Offs (fun x => x = gb ∨ (x = gr ∧ 0 < m)) op) := by
  have hlen : (presL B' R).length = m := by rw [pres_len]; exact HR9.out.1
  rw [← hlen] at h2
  obtain ⟨ao, c, e, _, h3, h4⟩ := LsT.of_own (encPr_len gr gb) h2
  cases e
  refine ⟨h3, fun b off s e hx => ?_⟩
  have e' : s = none := by
   rcases h2.2 with ⟨e1, _⟩ | ⟨g, cap, cur, e1, _⟩
   ·rw [(Value.slice.inj e1).1] at e; cases e
   ·rw [(Value.slice.inj e1).1] at e; cases e; rfl
  subst e'
  have := (h4 b off e).1
  have := HRow3.out.here
  omega
 have HHs : Hid (LsT (encHo gb) 24 w9 oh (holdL B' T) ∧ Offs (fun x => x = gb ∨ (x = gr ∧ 0 < m)) oh) := by
  have hlen : (holdL B' T).length = q := by rw [hold_len]; exact HT3.out.1
  rw [← hlen] at h5
  obtain ⟨ao, c, e, _, h3, h4⟩ := LsT.of_own (encHo_len gb) h5
  cases e
  refine ⟨h3, fun b off s e hx => ?_⟩
  have e' : s = none := by
   rcases h5.2 with ⟨e1, _⟩ | ⟨g, cap, cur, e1, _⟩
   ·rw [(Value.slice.inj e1).1] at e; cases e
   ·rw [(Value.slice.inj e1).1] at e; cases e; rfl
  subst e'
  have := (h4 b off e).1
  have := HRow3.out.here
  omega
 have HRL : Hid (R.length = m) := HR9.out.1
 have HTL : Hid (T.length = q) := HT3.out.1
 have HSv : Hid (Sv w9 w9 gb n gr m 43 tR B' R) := ⟨HRow9.out, fun hm => HR9.out.row hm, But.rfl_ _ _⟩
 have HV : Hid (∀ v, But (fun x => x = gb ∨ (x = gr ∧ 0 < m)) w9 v → Has v g7 79 #[.slice (some ⟨gb, 0, none⟩) n cb', .slice (some ⟨gm, 0, none⟩) n cm]) := fun v k => HV9.out.but k (by omega)
 clear hu k9 h2 h5 ev2 ev5 mkp mkh HV2 HV9 HRow3 HRow9 HR3 HR9 HT3 HB3 HML3
 simp only [List.drop_succ_cons, List.drop_zero]
 go_wp2_with fail
 refine NoPanic.normal ?_
 go_wp2_with fail
 go_loopg [11, 28] m (fun gg s11 s28 wx => ∃ k : Nat, k + gg = m ∧ s28 = .int .i64 (k : Nat) ∧ Hid (Sv w9 wx gb n gr m 43 tR ((R.take k).foldl beginS B') R))
 case atStart => exact ⟨0, by omega, by first | rfl | trivial, HSv.out⟩
 case round =>
  clear HSv
  obtain ⟨k, hk, rfl, HSv⟩ := hrel
  by_cases hkm : k < m
  ·obtain ⟨r, hr⟩ : ∃ r, R[k]? = some r := ⟨_, List.getElem?_eq_getElem (by rw [HRL.out]; exact hkm)⟩
   have HRr := hid hr
   obtain ⟨bp, offp, eop, hbp, hlp⟩ := HPs.out.1 (by rw [pres_len, HRL.out]; omega)
   cases eop
   obtain ⟨cs, ecs⟩ : ∃ cs, encPr gr gb (prOf B' k r) = cs := ⟨_, rfl⟩
   have HRg : Hid (wr.rangeAt bp (offp + k * 15) cs) := by
    unfold Hid; rw [← ecs]
    exact LsB.rangeAt (hlp.but HSv.out.k (HPs.out.2 bp offp none rfl)) (pres_at HRr.out)
   have HLN : Hid (cs.length = 15) := by unfold Hid; rw [← ecs]; rfl
   have H1C : Hid (∀ v ∈ cs, v.oneCell' = true) := by unfold Hid; rw [← ecs]; exact encPr_one gr gb _
   obtain ⟨g8, eg8⟩ : ∃ g, wr.heap.size = g := ⟨_, rfl⟩
   have HTH : Hid ((wr.alloc (.cells #[.pointer none, .pointer none, .pointer none, .int .i64 0, .int .i64 0, .int .i64 0, .int .i64 0, .int .i64 0, .int .i64 0, .int .i64 0, .int .i64 0, .int .i64 0, .int .i64 0, .int .i64 0, .int .i64 0] 112)).there g8 0 cs.toArray.size) := by
    unfold Hid; rw [← eg8]; exact there_of (has_new _ _ _) (by rw [List.size_toArray, HLN.out]; decide)
   have ECS := hid ecs
   clear hbp hlp ecs
   go_upto_region 6 with (first
    | refine wpList_load_mid rfl 112 (.tmp 30) rfl bp (offp + k * 15) rfl cs _ HRg.out Tryz.underlying112 rfl (by rw [HLN.out]; kernel_rfl) ?_
    | refine wpList_store_mid rfl 112 (.tmp 11) (.tmp 31) rfl g8 0 cs.toArray rfl rfl HTH.out (by rw [List.size_toArray, HLN.out]; kernel_rfl) (all_oneCell_toArray H1C.out) ?_)
   obtain ⟨W8, e8⟩ : ∃ V, V = (wr.alloc (.cells #[.pointer none, .pointer none, .pointer none, .int .i64 0, .int .i64 0, .int .i64 0, .int .i64 0, .int .i64 0, .int .i64 0, .int .i64 0, .int .i64 0, .int .i64 0, .int .i64 0, .int .i64 0, .int .i64 0] 112)).setCells g8 0 cs := ⟨_, rfl⟩
   have k8 : Made wr.heap.size wr W8 := by rw [e8]; exact Made.setCells (Nat.le_of_eq eg8) _ _ ((Made.rfl_ _ _).cells (Nat.le_refl _) _ _)
   have HX8 : Hid (Has W8 g8 112 cs.toArray) := by
    unfold Hid
    have h := (has_new wr 112 #[.pointer none, .pointer none, .pointer none, .int .i64 0, .int .i64 0, .int .i64 0, .int .i64 0, .int .i64 0, .int .i64 0, .int .i64 0, .int .i64 0, .int .i64 0, .int .i64 0, .int .i64 0, .int .i64 0]).whole (vs := cs.toArray) (by rw [List.size_toArray, HLN.out]; rfl)
    rw [eg8] at h
    rw [e8]
    exact h
   have HS8 := hid (HSv.out.mk2 k8)
   have hg8b : g8 ≠ gb := by have := HSv.out.b.here; omega
   have hg8r : 0 < m → g8 ≠ gr := fun hm => by have := (HSv.out.r hm).here; omega
   try rw [← e8]
   try simp only [Act.put]
   clear e8 k8 eg8 HTH HRg HSv
   have HC : Hid (Calls Tryz.prog 46 #[.agg cs.toArray] W8 fun e v => e = .returned (.tuple #[]) ∧ But (fun x => x = gb) W8 v ∧ RowL encB 11 v gb 43 n (beginS ((R.take k).foldl beginS B') r)) := by
    unfold Hid
    rw [← ECS.out, ← pr_same (begin_same (R.take k) B') (SameR.rfl_ r) k]
    have h := HRI.out r (List.mem_of_getElem? HRr.out)
    exact begin_s HS8.out.b (HS8.out.r (by omega)) HRr.out (begin_I _ HBI.out) h.1 h.2.1 h.2.2
   clear hr hg8b hg8r
   go_wp2_with (refine wpList_load_row rfl 112 (.tmp 11) rfl g8 rfl 112 _ (0, 0) _ HX8.out Tryz.underlying112 rfl (by rw [List.size_toArray, HLN.out]; kernel_rfl) ?_)
   refine HC.out.mono ?_
   rintro e v ⟨rfl, kb, kl⟩
   have HN8 : Hid (Sv w9 v gb n gr m 43 tR ((R.take (k + 1)).foldl beginS B') R) := by
    refine ⟨?_, fun hm => (HS8.out.r hm).but kb hgrgb, HS8.out.k.then_ (kb.up fun b _ h => .inl h)⟩
    rw [begin_next HRr.out]
    exact kl
   clear kb kl HC HS8 HX8
   go_wp2_with fail
   go_roundg (m - (k + 1))
   case measure => omega
   case rel => exact ⟨k + 1, by omega, by go_num, HN8.out⟩
  ·have e : m = k := by omega
   subst e
   have HS1 : Hid (Sv w9 wr gb n gr m 43 tR (R.foldl beginS B') R) := by
    have h := HSv.out
    rw [List.take_of_length_le (by rw [HRL.out]; exact Nat.le_refl _)] at h
    exact h
   clear HSv
   go_wp2_with fail
   obtain ⟨S0, eS0⟩ : ∃ s : List Bd × List Ro, (R.foldl beginS B', R) = s := ⟨_, rfl⟩
   have HS0 : Hid (R.foldl beginS B' = S0.1 ∧ R = S0.2) := by rw [← eS0]; exact ⟨rfl, rfl⟩
   have HFin : Hid ((solveS B' R T) = (((roundsS T 8 S0).1).map limitB, (roundsS T 8 S0).2)) := by rw [← eS0]; rfl
   have HSS : Hid (∀ t, SameL B' (roundsS T t S0).1 ∧ LI (roundsS T t S0).1 ∧ (∀ r ∈ (roundsS T t S0).2, RoI r) ∧ (roundsS T t S0).2.length = m ∧ ∀ (k : Nat) r q, R[k]? = some r → (roundsS T t S0).2[k]? = some q → SameR r q) := fun t => by
    rw [← eS0]
    have h := rounds_I T t (s := (R.foldl beginS B', R)) (begin_I R HBI.out) (fun r hr => (HRI.out r hr).1)
    exact ⟨(begin_same R B').trans (rounds_same T t _), h.1, h.2, by rw [rounds_len]; exact HRL.out, fun k r q h1 h2 => rounds_row T t (R.foldl beginS B', R) k r q h1 h2⟩
   clear eS0
   go_loopg [35] 8 (fun gg s35 wx => ∃ t : Nat, t + gg = 8 ∧ s35 = .int .i64 (t : Nat) ∧ Hid (Sv w9 wx gb n gr m 43 tR (roundsS T t S0).1 (roundsS T t S0).2))
   case atStart => exact ⟨0, by omega, by first | rfl | trivial, by have h := HS1.out; rw [HS0.out.1] at h; show Sv w9 wr gb n gr m _ tR S0.1 S0.2; rw [← HS0.out.2]; exact h⟩
   case round =>
    clear HS1
    obtain ⟨t, ht, rfl, HSt⟩ := hrel
    by_cases ht8 : t < 8
    ·have ht8d : decide ((t : Int) < 8) = true := decide_eq_true (by omega)
     have ht8e : decide (t < 8) = true := decide_eq_true ht8
     obtain ⟨Lt, eLt⟩ : ∃ l, (roundsS T t S0).1 = l := ⟨_, rfl⟩
     obtain ⟨Rt, eRt⟩ : ∃ l, (roundsS T t S0).2 = l := ⟨_, rfl⟩
     have HNx : Hid ((roundsS T (t + 1) S0) = rowsS (tiesS Lt T) Rt) := by
      rw [← eLt, ← eRt]; rfl
     obtain ⟨hsl, hli, hri, hrl, hrq⟩ := HSS.out t
     rw [eLt] at hsl hli
     rw [eRt] at hri hrl hrq
     have HSL := hid hsl; have HLI := hid hli; have HRtI := hid hri; have HRtL := hid hrl; have HRQ := hid hrq
     have HSv : Hid (Sv w9 wr gb n gr m 43 tR (tiesS Lt (T.take 0)) Rt) := by
      have h := HSt.out
      rw [eLt, eRt] at h
      exact h
     clear hsl hli hri hrl hrq eLt eRt HSt
     go_wp2_with fail
     go_loopg [13, 39] q (fun gg s13 s39 wx => ∃ k : Nat, k + gg = q ∧ s39 = .int .i64 (k : Nat) ∧ Hid (Sv w9 wx gb n gr m 43 tR (tiesS Lt (T.take k)) Rt))
     case atStart => exact ⟨0, by omega, by first | rfl | trivial, HSv.out⟩
     case round =>
      clear HSv
      obtain ⟨k, hk, rfl, HSv⟩ := hrel
      by_cases hkm : k < q
      ·obtain ⟨ti, hr⟩ : ∃ r, T[k]? = some r := ⟨_, List.getElem?_eq_getElem (by rw [HTL.out]; exact hkm)⟩
       have HRr := hid hr
       obtain ⟨bp, offp, eop, hbp, hlp⟩ := HHs.out.1 (by rw [hold_len, HTL.out]; omega)
       cases eop
       obtain ⟨cs, ecs⟩ : ∃ cs, encHo gb (hoOf B' ti) = cs := ⟨_, rfl⟩
       have HRg : Hid (wr.rangeAt bp (offp + k * 24) cs) := by
        unfold Hid; rw [← ecs]
        exact LsB.rangeAt (hlp.but HSv.out.k (HHs.out.2 bp offp none rfl)) (hold_at HRr.out)
       have HLN : Hid (cs.length = 24) := by unfold Hid; rw [← ecs]; rfl
       have H1C : Hid (∀ v ∈ cs, v.oneCell' = true) := by unfold Hid; rw [← ecs]; exact encHo_one gb _
       obtain ⟨g8, eg8⟩ : ∃ g, wr.heap.size = g := ⟨_, rfl⟩
       have HTH : Hid ((wr.alloc (.cells #[.int .i64 0, .int .i64 0, .int .i64 0, .int .i64 0, .int .i64 0, .int .i64 0, .int .i64 0, .int .i64 0, .int .i64 0, .int .i64 0, .pointer none, .pointer none, .int .i64 0, .int .i64 0, .int .i64 0, .int .i64 0, .int .i64 0, .int .i64 0, .int .i64 0, .int .i64 0, .int .i64 0, .int .i64 0, .int .i64 0, .int .i64 0] 114)).there g8 0 cs.toArray.size) := by
        unfold Hid; rw [← eg8]; exact there_of (has_new _ _ _) (by rw [List.size_toArray, HLN.out]; decide)
       have ECS := hid ecs
       clear hbp hlp ecs
       go_upto_region 13 with (first
        | refine wpList_load_mid rfl 114 (.tmp 41) rfl bp (offp + k * 24) rfl cs _ HRg.out Tryz.underlying114 rfl (by rw [HLN.out]; kernel_rfl) ?_
        | refine wpList_store_mid rfl 114 (.tmp 13) (.tmp 42) rfl g8 0 cs.toArray rfl rfl HTH.out (by rw [List.size_toArray, HLN.out]; kernel_rfl) (all_oneCell_toArray H1C.out) ?_)
       obtain ⟨W8, e8⟩ : ∃ V, V = (wr.alloc (.cells #[.int .i64 0, .int .i64 0, .int .i64 0, .int .i64 0, .int .i64 0, .int .i64 0, .int .i64 0, .int .i64 0, .int .i64 0, .int .i64 0, .pointer none, .pointer none, .int .i64 0, .int .i64 0, .int .i64 0, .int .i64 0, .int .i64 0, .int .i64 0, .int .i64 0, .int .i64 0, .int .i64 0, .int .i64 0, .int .i64 0, .int .i64 0] 114)).setCells g8 0 cs := ⟨_, rfl⟩
       have k8 : Made wr.heap.size wr W8 := by rw [e8]; exact Made.setCells (Nat.le_of_eq eg8) _ _ ((Made.rfl_ _ _).cells (Nat.le_refl _) _ _)
       have HX8 : Hid (Has W8 g8 114 cs.toArray) := by
        unfold Hid
        have h := (has_new wr 114 #[.int .i64 0, .int .i64 0, .int .i64 0, .int .i64 0, .int .i64 0, .int .i64 0, .int .i64 0, .int .i64 0, .int .i64 0, .int .i64 0, .pointer none, .pointer none, .int .i64 0, .int .i64 0, .int .i64 0, .int .i64 0, .int .i64 0, .int .i64 0, .int .i64 0, .int .i64 0, .int .i64 0, .int .i64 0, .int .i64 0, .int .i64 0]).whole (vs := cs.toArray) (by rw [List.size_toArray, HLN.out]; rfl)
        rw [eg8] at h
        rw [e8]
        exact h
       have HS8 := hid (HSv.out.mk2 k8)
       have hg8b : g8 ≠ gb := by have := HSv.out.b.here; omega
       have hg8r : 0 < m → g8 ≠ gr := fun hm => by have := (HSv.out.r hm).here; omega
       try rw [← e8]
       try simp only [Act.put]
       clear e8 k8 eg8 HTH HRg HSv
       have HC : Hid (Calls Tryz.prog 47 #[.agg cs.toArray] W8 fun e v => e = .returned (.tuple #[]) ∧ But (fun x => x = gb) W8 v ∧ RowL encB 11 v gb 43 n (pullS (tiesS Lt (T.take k)) ti)) := by
        unfold Hid
        rw [← ECS.out, ← ho_same (HSL.out.trans (ties_same (T.take k) Lt)) ti]
        have h := HTI.out ti (List.mem_of_getElem? HRr.out)
        exact pull_s HS8.out.b (ties_I _ HLI.out) h.1 h.2.1 h.2.2
       clear hr hg8b hg8r
       go_wp2_with (refine wpList_load_row rfl 114 (.tmp 13) rfl g8 rfl 114 _ (0, 0) _ HX8.out Tryz.underlying114 rfl (by rw [List.size_toArray, HLN.out]; kernel_rfl) ?_)
       refine HC.out.mono ?_
       rintro e v ⟨rfl, kb, kl⟩
       have HN8 : Hid (Sv w9 v gb n gr m 43 tR (tiesS Lt (T.take (k + 1))) Rt) := by
        refine ⟨?_, fun hm => (HS8.out.r hm).but kb hgrgb, HS8.out.k.then_ (kb.up fun b _ h => .inl h)⟩
        rw [ties_next HRr.out]
        exact kl
       clear kb kl HC HS8 HX8
       go_wp2_with fail
       go_roundg (q - (k + 1))
       case measure => omega
       case rel => exact ⟨k + 1, by omega, by go_num, HN8.out⟩
      ·have e : q = k := by omega
       subst e
       obtain ⟨L2, eL2⟩ : ∃ l, tiesS Lt T = l := ⟨_, rfl⟩
       have HS2 : Hid (Sv w9 wr gb n gr m 43 tR (bodsAt L2 Rt 0) (rowsAt L2 Rt 0)) := by
        have h := HSv.out
        rw [List.take_of_length_le (by rw [HTL.out]; exact Nat.le_refl _), eL2] at h
        exact h
       have HSL2 : Hid (SameL B' L2) := by unfold Hid; rw [← eL2]; exact HSL.out.trans (ties_same T Lt)
       have HLI2 : Hid (LI L2) := by unfold Hid; rw [← eL2]; exact ties_I T HLI.out
       have HNx2 : Hid ((roundsS T (t + 1) S0) = rowsS L2 Rt) := by unfold Hid; rw [← eL2]; exact HNx.out
       clear HSv eL2 HNx
       go_wp2_with fail
       go_loopg [15, 48] m (fun gg s15 s48 wx => ∃ k : Nat, k + gg = m ∧ s48 = .int .i64 (k : Nat) ∧ Hid (Sv w9 wx gb n gr m 43 tR (bodsAt L2 Rt k) (rowsAt L2 Rt k)))
       case atStart => exact ⟨0, by omega, by first | rfl | trivial, HS2.out⟩
       case round =>
        clear HS2
        obtain ⟨k, hk, rfl, HSv⟩ := hrel
        by_cases hkm : k < m
        ·obtain ⟨r0, hr⟩ : ∃ r, R[k]? = some r := ⟨_, List.getElem?_eq_getElem (by rw [HRL.out]; exact hkm)⟩
         obtain ⟨r, hrt⟩ : ∃ r, Rt[k]? = some r := ⟨_, List.getElem?_eq_getElem (by rw [HRtL.out]; exact hkm)⟩
         have HRr := hid hr; have HRt := hid hrt
         have HSR := hid (HRQ.out k r0 r hr hrt)
         obtain ⟨bp, offp, eop, hbp, hlp⟩ := HPs.out.1 (by rw [pres_len, HRL.out]; omega)
         cases eop
         obtain ⟨cs, ecs⟩ : ∃ cs, encPr gr gb (prOf B' k r0) = cs := ⟨_, rfl⟩
         have HRg : Hid (wr.rangeAt bp (offp + k * 15) cs) := by
          unfold Hid; rw [← ecs]
          exact LsB.rangeAt (hlp.but HSv.out.k (HPs.out.2 bp offp none rfl)) (pres_at HRr.out)
         have HLN : Hid (cs.length = 15) := by unfold Hid; rw [← ecs]; rfl
         have H1C : Hid (∀ v ∈ cs, v.oneCell' = true) := by unfold Hid; rw [← ecs]; exact encPr_one gr gb _
         obtain ⟨g8, eg8⟩ : ∃ g, wr.heap.size = g := ⟨_, rfl⟩
         have HTH : Hid ((wr.alloc (.cells #[.pointer none, .pointer none, .pointer none, .int .i64 0, .int .i64 0, .int .i64 0, .int .i64 0, .int .i64 0, .int .i64 0, .int .i64 0, .int .i64 0, .int .i64 0, .int .i64 0, .int .i64 0, .int .i64 0] 112)).there g8 0 cs.toArray.size) := by
          unfold Hid; rw [← eg8]; exact there_of (has_new _ _ _) (by rw [List.size_toArray, HLN.out]; decide)
         have ECS := hid ecs
         clear hbp hlp ecs
         go_upto_region 18 with (first
          | refine wpList_load_mid rfl 112 (.tmp 50) rfl bp (offp + k * 15) rfl cs _ HRg.out Tryz.underlying112 rfl (by rw [HLN.out]; kernel_rfl) ?_
          | refine wpList_store_mid rfl 112 (.tmp 15) (.tmp 51) rfl g8 0 cs.toArray rfl rfl HTH.out (by rw [List.size_toArray, HLN.out]; kernel_rfl) (all_oneCell_toArray H1C.out) ?_)
         obtain ⟨W8, e8⟩ : ∃ V, V = (wr.alloc (.cells #[.pointer none, .pointer none, .pointer none, .int .i64 0, .int .i64 0, .int .i64 0, .int .i64 0, .int .i64 0, .int .i64 0, .int .i64 0, .int .i64 0, .int .i64 0, .int .i64 0, .int .i64 0, .int .i64 0] 112)).setCells g8 0 cs := ⟨_, rfl⟩
         have k8 : Made wr.heap.size wr W8 := by rw [e8]; exact Made.setCells (Nat.le_of_eq eg8) _ _ ((Made.rfl_ _ _).cells (Nat.le_refl _) _ _)
         have HX8 : Hid (Has W8 g8 112 cs.toArray) := by
          unfold Hid
          have h := (has_new wr 112 #[.pointer none, .pointer none, .pointer none, .int .i64 0, .int .i64 0, .int .i64 0, .int .i64 0, .int .i64 0, .int .i64 0, .int .i64 0, .int .i64 0, .int .i64 0, .int .i64 0, .int .i64 0, .int .i64 0]).whole (vs := cs.toArray) (by rw [List.size_toArray, HLN.out]; rfl)
          rw [eg8] at h
          rw [e8]
          exact h
         have HS8 := hid (HSv.out.mk2 k8)
         have hg8b : g8 ≠ gb := by have := HSv.out.b.here; omega
         have hg8r : 0 < m → g8 ≠ gr := fun hm => by have := (HSv.out.r hm).here; omega
         try rw [← e8]
         try simp only [Act.put]
         clear e8 k8 eg8 HTH HRg HSv
         obtain ⟨Lc, eLc⟩ : ∃ l, bodsAt L2 Rt k = l := ⟨_, rfl⟩
         obtain ⟨Rc, eRc⟩ : ∃ l, rowsAt L2 Rt k = l := ⟨_, rfl⟩
         have hRcr : Rc[k]? = some r := by rw [← eRc]; exact rowsAt_get HRt.out
         have hLcI : LI Lc := by rw [← eLc]; exact rowsAt_I HLI2.out HRtI.out k
         have hLcS : SameL B' Lc := by rw [← eLc]; exact HSL2.out.trans (bodsAt_same L2 Rt k)
         have hrI := HRtI.out r (List.mem_of_getElem? HRt.out)
         have h0 := HRI.out r0 (List.mem_of_getElem? HRr.out)
         have ha : r.a < n := by rw [HSR.out.1]; exact h0.2.1
         have hb : r.b < n := by rw [HSR.out.2.1]; exact h0.2.2
         have ecs1 : encPr gr gb (prOf Lc k r) = cs := by rw [pr_same hLcS HSR.out k]; exact ECS.out
         have h8 := HS8.out
         rw [eLc, eRc] at h8
         obtain ⟨r1, er1⟩ : ∃ q : Ro, ({ r with T := rubT Lc r } : Ro) = q := ⟨_, rfl⟩
         obtain ⟨L3, eL3⟩ : ∃ l, rubS Lc r = l := ⟨_, rfl⟩
         have HC : Hid (Calls Tryz.prog 48 #[.agg cs.toArray] W8 fun e v => e = .returned (.tuple #[]) ∧ But (fun x => x = gb ∨ x = gr) W8 v ∧ RowL encB 11 v gb 43 n L3 ∧ RowL encR 14 v gr tR m (Rc.set k r1)) := by
          unfold Hid
          rw [← ecs1, ← er1, ← eL3]
          exact rub_s hgrgb h8.b (h8.r (by omega)) hRcr hLcI hrI ha hb
         have hs1 : SameR r r1 := by rw [← er1]; exact ⟨rfl, rfl, rfl, rfl, rfl, rfl, rfl, rfl, rfl⟩
         have hi1 : RoI r1 := by rw [← er1]; exact ⟨hrI.key, hrI.n, hrI.ra, hrI.rb, hrI.gn, hrI.gt, hrI.out, hrI.N, rub_I Lc hrI⟩
         have hs3 : SameL Lc L3 := by rw [← eL3]; exact bump_same _ _ _ _ _ _
         have hi3 : LI L3 := by rw [← eL3]; exact bump_I hLcI _ _ _ _ _
         have ecs2 : encPr gr gb (prOf L3 k r1) = cs := by rw [pr_same hs3 hs1 k]; exact ecs1
         have hr1 : (Rc.set k r1)[k]? = some r1 := List.getElem?_set_self (List.getElem?_eq_some_iff.1 hRcr).1
         have HP2 : Hid (∀ v, RowL encB 11 v gb 43 n L3 → RowL encR 14 v gr tR m (Rc.set k r1) → Calls Tryz.prog 49 #[.agg cs.toArray] v fun e u => e = .returned (.tuple #[]) ∧ But (fun x => x = gb ∨ x = gr) v u ∧ RowL encB 11 u gb 43 n (bodsAt L2 Rt (k + 1)) ∧ RowL encR 14 u gr tR m (rowsAt L2 Rt (k + 1))) := fun v hb1 hr2 => by
          have h := push_s hgrgb hb1 hr2 hr1 hi3 hi1 (by rw [hs1.1]; exact ha) (by rw [hs1.2.1]; exact hb)
          rw [ecs2] at h
          have hn := rowsAt_next (L := L2) HRt.out
          rw [eLc, eRc] at hn
          have e1 : pushS L3 r1 = bodsAt L2 Rt (k + 1) := by rw [hn.1, ← eL3, ← er1]; rfl
          have e2 : (Rc.set k r1).set k { r1 with N := pushN L3 r1 } = rowsAt L2 Rt (k + 1) := by rw [List.set_set, ← hn.2, ← eL3, ← er1]; rfl
          rw [e1, e2] at h
          exact h
         have HK8 := hid h8.k
         have hg8r' := hg8r (by omega)
         clear hr hrt hRcr hLcI hLcS hrI h0 ha hb ecs1 h8 er1 eL3 hs1 hi1 hs3 hi3 ecs2 hr1 HS8 eLc eRc hg8r
         go_wp2_with (refine wpList_load_row rfl 112 (.tmp 15) rfl g8 rfl 112 _ (0, 0) _ HX8.out Tryz.underlying112 rfl (by rw [List.size_toArray, HLN.out]; kernel_rfl) ?_)
         refine HC.out.mono ?_
         rintro e v ⟨rfl, kb, kl, kr⟩
         have HX9 := hid (HX8.out.but kb (by omega))
         have HQ := hid (HP2.out v kl kr)
         have HK9 := hid (HK8.out.then_ (kb.up fun b _ h => h.imp id fun e => ⟨e, by omega⟩))
         clear kb kl kr HC HX8 HP2 HK8
         go_wp2_with (refine wpList_load_row rfl 112 (.tmp 15) rfl g8 rfl 112 _ (0, 0) _ HX9.out Tryz.underlying112 rfl (by rw [List.size_toArray, HLN.out]; kernel_rfl) ?_)
         refine HQ.out.mono ?_
         rintro e u ⟨rfl, kb, kl, kr⟩
         have HN8 : Hid (Sv w9 u gb n gr m 43 tR (bodsAt L2 Rt (k + 1)) (rowsAt L2 Rt (k + 1))) := ⟨kl, fun _ => kr, HK9.out.then_ (kb.up fun b _ h => h.imp id fun e => ⟨e, by omega⟩)⟩
         clear kb kl kr HQ HX9 HK9
         go_wp2_with fail
         go_roundg (m - (k + 1))
         case measure => omega
         case rel => exact ⟨k + 1, by omega, by go_num, HN8.out⟩
        ·have e : m = k := by omega
         subst e
         have HN8 : Hid (Sv w9 wr gb n gr m 43 tR (roundsS T (t + 1) S0).1 (roundsS T (t + 1) S0).2) := by
          unfold Hid
          rw [HNx2.out]
          have h := HSv.out
          rw [(rowsAt_all L2 Rt (by rw [HRtL.out]; exact Nat.le_refl _)).1, (rowsAt_all L2 Rt (by rw [HRtL.out]; exact Nat.le_refl _)).2] at h
          exact h
         clear HSv
         go_wp2_with fail
         go_roundg (8 - (t + 1))
         case measure => omega
         case rel => exact ⟨t + 1, by omega, by go_num, HN8.out⟩
    ·have e : t = 8 := by omega
     subst e
     obtain ⟨Lr, eLr⟩ : ∃ l, (roundsS T 8 S0).1 = l := ⟨_, rfl⟩
     obtain ⟨Rr, eRr⟩ : ∃ l, (roundsS T 8 S0).2 = l := ⟨_, rfl⟩
     have HLr : Hid (LI Lr ∧ Lr.length = n) := by
      have h := HSS.out 8
      rw [eLr] at h
      exact ⟨h.2.1, by rw [h.1.1]; exact HBL.out⟩
     have HS5 : Hid (Sv w9 wr gb n gr m 43 tR (limAt Lr 0) Rr) := by
      have h := HSt.out
      rw [eLr, eRr] at h
      exact h
     have HF2 : Hid ((solveS B' R T).1 = Lr.map limitB ∧ (solveS B' R T).2 = Rr) := by
      rw [HFin.out, eLr, eRr]; exact ⟨rfl, rfl⟩
     have c7 : wr.cell? ⟨g7, 0, none⟩ = some (.slice (some ⟨gb, 0, none⟩) n cb') := by rw [(HV.out wr HS5.out.k).at_]; rfl
     clear HSt eLr eRr HFin HSS HPs HHs HS0
     go_wp2_with fail
     go_loopg [16, 61] n (fun gg s16 s61 wx => ∃ k : Nat, k + gg = n ∧ s61 = .int .i64 (k : Nat) ∧ Hid (Sv w9 wx gb n gr m 43 tR (limAt Lr k) Rr))
     case atStart => exact ⟨0, by omega, by first | rfl | trivial, HS5.out⟩
     case round =>
      clear HS5 c7
      obtain ⟨k, hk, rfl, HSv⟩ := hrel
      have c7 : wr.cell? ⟨g7, 0, none⟩ = some (.slice (some ⟨gb, 0, none⟩) n cb') := by rw [(HV.out wr HSv.out.k).at_]; rfl
      by_cases hkn : k < n
      ·obtain ⟨b, hb⟩ : ∃ b, Lr[k]? = some b := ⟨_, List.getElem?_eq_getElem (by rw [HLr.out.2]; exact hkn)⟩
       have HB := hid hb
       have HC := hid (limit_s HSv.out.b (limAt_I HLr.out.1 k) (limAt_get hb))
       clear hb
       go_wp2_with fail
       refine HC.out.mono ?_
       rintro e v ⟨rfl, kb, kl⟩
       have HN8 : Hid (Sv w9 v gb n gr m 43 tR (limAt Lr (k + 1)) Rr) := by
        refine ⟨?_, fun hm => (HSv.out.r hm).but kb hgrgb, HSv.out.k.then_ (kb.up fun b _ h => .inl h)⟩
        rw [← limAt_next HB.out]
        exact kl
       clear kb kl HC HSv c7
       go_wp2_with fail
       go_roundg (n - (k + 1))
       case measure => omega
       case rel => exact ⟨k + 1, by omega, by go_num, HN8.out⟩
      ·have e : n = k := by omega
       subst e
       go_wp2_with fail
       go_ret
       refine ⟨gb, cb', B', rfl, HNC.out.1, HNC.out.2, hbd, HS.out, ?_, fun hm => ?_, ?_, HSl.out _ HZ9.out _ HSv.out.k.bub⟩
       ·rw [HF2.out.1, ← limAt_all (L := Lr) (j := n) (by rw [HLr.out.2]; exact Nat.le_refl _)]
        exact HSv.out.b
       ·rw [HF2.out.2]
        exact HSv.out.r hm
       ·exact (BuB.then_' (Y := fun x => x = gb ∨ (x = gr ∧ 0 < m)) ⟨HB9.out.os, HB9.out.tape, HB9.out.output, HB9.out.size, fun b hb _ => HB9.out.block b hb⟩ HSv.out.k.bub (fun g hg => hg.elim (fun e => .inr (by rw [e]; exact hbd)) (fun e => .inl e)))
end Go.Proofs.YtjhcejmfiekjgaaGreat.Fx