/- SoJ SoK SoL Maks SoS -/
import Derived.Test.YtcfphdcinihdbaaGreatSn7
import Derived.Test.YtcfphdcinihdbaaGreatSn16
import Derived.Test.YtcfphdcinihdbaaGreatSn18
import Derived.Test.YtcfphdcinihdbaaGreatSn21
set_option maxRecDepth 100000
set_option maxHeartbeats 64000000
/- Package solve: bodies and their masses. -/
namespace Go.Proofs.YtcfphdcinihdbaaGreat.Fx
open Go.ChangeShapes Go.WideShapes Go.ChangeAt Go.RowKit
set_option linter.unusedVariables false
theorem infoM : (Tryz.prog.info? 111).map (fun i => (i.zero, i.size, i.bytes)) = some (some (.agg #[.int .i64 0, .int .i64 0, .int .i64 0, .int .i64 0]), 4, 32) := by kernel_rfl
theorem Sl.blw {w v : World} {ao : Option Addr} {n : Nat} {f : Cs} (h : Sl w ao n f) (k : Below w.heap.size w v) : Sl v ao n f := fun hn => by
 obtain ⟨b, off, e, hp⟩ := h hn
 exact ⟨b, off, e, fun i hi => ⟨Below.reads k (hp i hi).1, Below.reads k (hp i hi).2⟩⟩
theorem mof_e (b : Bd) {w : World} (hi : BdI b) (hp : BodyP b) (hs : Sl w b.ao b.n b.f) {p q r s : Int} (e0 : mA b = p) (e1 : mI b = q) (e2 : moveB b = r) (e3 : spinB b = s) :
  Calls Tryz.prog 52 #[bdV b] w fun e v => e = .returned (.agg #[.int .i64 p, .int .i64 q, .int .i64 r, .int .i64 s]) ∧ Below w.heap.size w v := by
 have h := mof_c b hi hp hs
 rw [mass_enc] at h
 subst e0 e1 e2 e3
 exact h
theorem encM_one (b : Bd) : ∀ v ∈ encM b, v.oneCell' = true := by
 intro v hv; simp [encM] at hv; rcases hv with rfl | rfl | rfl | rfl <;> rfl
def alM (p0 p1 p2 p3 : Int) (i : Nat) (v : World) (g : Nat) (e : MB.Ex) : Prop := Has v g 111 #[.int .i64 p0, .int .i64 p1, .int .i64 p2, .int .i64 p3] ∧ g < e.hi
theorem alM_lasts (p0 p1 p2 p3 : Int) : MB.Lasts (alM p0 p1 p2 p3) := fun i u v g e h hh k => ⟨h.1.below k h.1.here, h.2⟩
def valM (i g : Nat) (e : MB.Ex) : Value := .slice (some ⟨g, 0, none⟩) 1 1
theorem But.blw {X : Nat → Prop} {B : Nat} {w v : World} (k : But X w v) (hB : B ≤ w.heap.size) (hX : ∀ b, X b → B ≤ b) : Below B w v :=
 ⟨k.os, k.tape, k.output, k.size, fun b hb => k.block b (Nat.lt_of_lt_of_le hb hB) (fun hx => by have := hX b hx; omega)⟩
theorem own_apart_row {w : World} {base n : Nat} {t : TypeId} {size g : Nat} {x : Value} {xs : List Value} (h : w.ownsRow base t size x n xs) (hx : some g ≠ x.ownBlock) (cs : Array Value) : (w.setRow g cs).ownsRow base t size x n xs := by
 refine ⟨h.1, h.2.imp id ?_⟩
 rintro ⟨g', cap, cur, e, hb, hg, r⟩
 refine ⟨g', cap, cur, e, hb, ?_, r⟩
 rw [setRow_other w g g' cs (fun e2 => hx (by rw [e, ← e2]; rfl))]
 exact hg
def zero11 : Array Value := #[.int .i64 0, .int .i64 0, .int .i64 0, .int .i64 0, .int .i64 0, .int .i64 0, .int .i64 0, .int .i64 0, .int .i64 0, .int .i64 0, .slice none 0 0]
theorem take_snoc {α : Type} {l : List α} {k : Nat} {x : α} (h : l[k]? = some x) : l.take (k + 1) = l.take k ++ [x] := by
 obtain ⟨hl, hx⟩ := List.getElem?_eq_some_iff.1 h
 rw [List.take_add_one, h]; rfl
theorem weighed_c {L : List Bd} {ao : Option Addr} {n cb : Nat} {w : World} (hn : L.length = n) (hl : LsT encB 11 w ao L) (ho : SlOk ao n cb) (hI : ∀ b ∈ L, BdI b) (hP : ∀ b ∈ L, BodyP b) (hS : ∀ b ∈ L, Sl w b.ao b.n b.f) (hmx : n ≤ 1073741824) :
  Calls Tryz.prog 39 #[.slice ao n cb] w fun e w' => ∃ om cm, e = .returned (.agg #[.slice ao n cb, .slice om n cm]) ∧ Below w.heap.size w w' ∧ w'.ownsRow w.heap.size 111 4 (.slice om n cm) n (flatE encM L) := by
 have HN := hid hn
 obtain ⟨hnc, hcm, ho⟩ := ho
 have HL := hid (fun v (k : Below w.heap.size w v) => hl.below k)
 have HI := hid hI; have HP := hid hP
 have HS := hid (fun v (k : Below w.heap.size w v) b hb => (Sl.blw (hS b hb) k))
 obtain ⟨iO, hiO, hz0, hz1, hz2⟩ := info_parts infoM
 have iHi := hid hiO; have iH0 := hid hz0; have iH1 := hid hz1; have iH2 := hid hz2
 clear hn hl hI hP hS hiO hz0 hz1 hz2
 obtain ⟨g0, eg0⟩ : ∃ g, w.heap.size = g := ⟨_, rfl⟩
 obtain ⟨g1, eg1⟩ : ∃ g, g0 + 1 = g := ⟨_, rfl⟩
 have HW1 : Hid (Has ((w.alloc (.cells #[.slice none 0 0, .slice none 0 0] 97)).alloc (.cells #[.slice ao n cb, .slice none 0 0] 97)) g1 97 #[.slice ao n cb, .slice none 0 0]) := by
  unfold Hid; rw [← eg1, ← eg0]
  have := has_new (w.alloc (.cells #[.slice none 0 0, .slice none 0 0] 97)) 97 #[.slice ao n cb, .slice none 0 0]
  simpa using this
 have HW0 : Hid (Has ((w.alloc (.cells #[.slice none 0 0, .slice none 0 0] 97)).alloc (.cells #[.slice ao n cb, .slice none 0 0] 97)) g0 97 #[.slice none 0 0, .slice none 0 0]) := by
  unfold Hid; rw [← eg0]
  exact (has_new w 97 #[.slice none 0 0, .slice none 0 0]).more _
 have HB1 : Hid (Below g0 w ((w.alloc (.cells #[.slice none 0 0, .slice none 0 0] 97)).alloc (.cells #[.slice ao n cb, .slice none 0 0] 97))) := by
  unfold Hid; rw [← eg0]
  exact ((Made.rfl_ w.heap.size w).cells (Nat.le_refl _) _ _).1.trans (((Made.rfl_ _ _).cells (Nat.le_refl _) _ _).1.mono (by simp))
 go_enter Tryz.func39, Tryz.ntmps39
 go_wp2_with fail
 go_loopg [5, 10] n (fun gg s5 s10 wx => ∃ k : Nat, k + gg = n ∧ s10 = .int .i64 (k : Nat) ∧ Hid (∃ om cm, Has wx g1 97 #[.slice ao n cb, .slice om k cm] ∧ wx.ownsRow g0 111 4 (.slice om k cm) k (flatE encM (L.take k))) ∧ Hid (Has wx g0 97 #[.slice none 0 0, .slice none 0 0]) ∧ Hid (Below g0 w wx))
 case atStart => exact ⟨0, by omega, by first | rfl | trivial, ⟨none, 0, HW1.out, World.ownsRow_nil _ _ _ _⟩, HW0.out, HB1.out⟩
 case round =>
  obtain ⟨k, hk, rfl, HH, H0, HB⟩ := hrel
  obtain ⟨om, cm, hh1, hown⟩ := HH.out
  have HG1 := hid hh1
  have HO := hid hown
  clear hh1 hown HH HW1 HW0 HB1
  by_cases hkn : k < n
  ·obtain ⟨x, hx⟩ : ∃ x, L[k]? = some x := ⟨_, List.getElem?_eq_getElem (by rw [HN.out]; exact hkn)⟩
   obtain ⟨bb, off, rfl, hbb, hLB⟩ := (HL.out wr (by rw [eg0]; exact HB.out)) (by rw [HN.out]; omega)
   have hxm := List.mem_of_getElem? hx
   have HX := hid hx
   have HXI := hid (HI.out x hxm)
   have HXP := hid (HP.out x hxm)
   have HXS := hid (fun v (k : Below w.heap.size w v) => HS.out v k x hxm)
   obtain ⟨cs, ecs⟩ : ∃ cs, encB x = cs := ⟨_, rfl⟩
   have HRg : Hid (wr.rangeAt bb (off + k * 11) cs) := by unfold Hid; rw [← ecs]; exact LsB.rangeAt hLB hx
   have HLN : Hid (cs.length = 11) := by unfold Hid; rw [← ecs]; rfl
   have H1C : Hid (∀ v ∈ cs, v.oneCell' = true) := by unfold Hid; rw [← ecs]; exact encB_one x
   obtain ⟨g7, eg7⟩ : ∃ g, wr.heap.size = g := ⟨_, rfl⟩
   have HTH : Hid ((wr.alloc (.cells #[.int .i64 0, .int .i64 0, .int .i64 0, .int .i64 0, .int .i64 0, .int .i64 0, .int .i64 0, .int .i64 0, .int .i64 0, .int .i64 0, .slice none 0 0] 45)).there g7 0 cs.toArray.size) := by
    unfold Hid; rw [← eg7]; exact there_of (has_new _ _ _) (by rw [List.size_toArray, HLN.out]; decide)
   have ECS := hid ecs
   clear hx hLB hxm ecs
   go_upto_region 5 with (first
    | refine wpList_load_mid rfl 45 (.tmp 12) rfl bb (off + k * 11) rfl cs _ HRg.out Tryz.underlying45 rfl (by rw [HLN.out]; kernel_rfl) ?_
    | refine wpList_store_mid rfl 45 (.tmp 5) (.tmp 13) rfl g7 0 cs.toArray rfl rfl HTH.out (by rw [List.size_toArray, HLN.out]; kernel_rfl) (all_oneCell_toArray H1C.out) ?_)
   obtain ⟨W4, e4⟩ : ∃ V, V = (wr.alloc (.cells #[.int .i64 0, .int .i64 0, .int .i64 0, .int .i64 0, .int .i64 0, .int .i64 0, .int .i64 0, .int .i64 0, .int .i64 0, .int .i64 0, .slice none 0 0] 45)).setCells g7 0 cs := ⟨_, rfl⟩
   have k4 : Made wr.heap.size wr W4 := by rw [e4]; exact Made.setCells (Nat.le_of_eq eg7) _ _ ((Made.rfl_ _ _).cells (Nat.le_refl _) _ _)
   have HX4 : Has W4 g7 45 cs.toArray := by
    have h := (has_new wr 45 #[.int .i64 0, .int .i64 0, .int .i64 0, .int .i64 0, .int .i64 0, .int .i64 0, .int .i64 0, .int .i64 0, .int .i64 0, .int .i64 0, .slice none 0 0]).whole (vs := cs.toArray) (by rw [List.size_toArray, HLN.out]; rfl)
    rw [eg7] at h
    rw [e4]
    exact h
   rw [← ECS.out] at HX4
   rw [← e4]
   simp only [Act.put]
   have HG4 := hid (HG1.out.below k4.1 HG1.out.here)
   have H04 := hid (H0.out.below k4.1 H0.out.here)
   have HO4 := hid (own_below (B := 0) HO.out k4.1)
   have HB4 : Hid (Below g0 w W4) := HB.out.trans (k4.1.mono (by rw [← eg0]; exact HB.out.size))
   have l1 : g1 < W4.heap.size := HG4.out.here
   clear e4 eg7 HTH k4 HG1 H0 HO HB HRg
   obtain ⟨p0, ep0⟩ : ∃ y, mA x = y := ⟨_, rfl⟩
   obtain ⟨p1, ep1⟩ : ∃ y, mI x = y := ⟨_, rfl⟩
   obtain ⟨p2, ep2⟩ : ∃ y, moveB x = y := ⟨_, rfl⟩
   obtain ⟨p3, ep3⟩ : ∃ y, spinB x = y := ⟨_, rfl⟩
   have HEM : Hid (encM x = [.int .i64 p0, .int .i64 p1, .int .i64 p2, .int .i64 p3]) := by unfold Hid encM; rw [ep0, ep1, ep2, ep3]
   refine MB.reg_mk (alM p0 p1 p2 p3) 5 [0, 1, 2, 3, 4] [0, 1, 2, 3] [4] [] (fun _ => []) (val := valM) (by kernel_rfl) (by kernel_rfl) (fun p hp => absurd hp (by simp)) ?_
   refine MB.can_class (rest := [4]) [0, 1, 2, 3] [] 23 (alM_lasts _ _ _ _) (MB.any_class _) (by kernel_rfl) rfl (by kernel_rfl) (by kernel_rfl) ?_
   apply Exists.intro
   refine ⟨?r1, ?r2⟩
   case r1 =>
    intro T hT f hf _
    have c1 := ClassB.reads hf (p := ⟨g1, 1, none⟩) (u := .slice om k cm) (by rw [HG4.out.at_]; rfl)
    have b0 := ClassB.reads hf (p := ⟨g7, 0, none⟩) (u := .int .i64 x.id) (by rw [HX4.at_]; rfl)
    have b1 := ClassB.reads hf (p := ⟨g7, 1, none⟩) (u := .int .i64 x.x) (by rw [HX4.at_]; rfl)
    have b2 := ClassB.reads hf (p := ⟨g7, 2, none⟩) (u := .int .i64 x.y) (by rw [HX4.at_]; rfl)
    have b3 := ClassB.reads hf (p := ⟨g7, 3, none⟩) (u := .int .i64 x.vx) (by rw [HX4.at_]; rfl)
    have b4 := ClassB.reads hf (p := ⟨g7, 4, none⟩) (u := .int .i64 x.vy) (by rw [HX4.at_]; rfl)
    have b5 := ClassB.reads hf (p := ⟨g7, 5, none⟩) (u := .int .i64 x.an) (by rw [HX4.at_]; rfl)
    have b6 := ClassB.reads hf (p := ⟨g7, 6, none⟩) (u := .int .i64 x.sp) (by rw [HX4.at_]; rfl)
    have b7 := ClassB.reads hf (p := ⟨g7, 7, none⟩) (u := .int .i64 x.de) (by rw [HX4.at_]; rfl)
    have b8 := ClassB.reads hf (p := ⟨g7, 8, none⟩) (u := .int .i64 x.k) (by rw [HX4.at_]; rfl)
    have b9 := ClassB.reads hf (p := ⟨g7, 9, none⟩) (u := .int .i64 x.r) (by rw [HX4.at_]; rfl)
    have b10 := ClassB.reads hf (p := ⟨g7, 10, none⟩) (u := .slice x.ao x.n x.c) (by rw [HX4.at_]; rfl)
    have HC := hid (fun t => hf.below (x := t) (mof_e x HXI.out HXP.out (HXS.out _ (by rw [eg0]; exact HB4.out.trans ((hf.1 t).mono (by rw [← eg0]; exact HB4.out.size)))) ep0 ep1 ep2 ep3))
    change wpQuiet _ _ _ _ [_, _, _, _] _
    repeat (go_big_quiet_step ((go_at_call 52; exact HC.out _)))
    exact wpQuiet_nil rfl
   refine MB.can_mk 4 18 _ rfl rfl rfl (by rfl) ?m2 fun q2 e2 => ?n2
   case m2 =>
    intro G' u _ hu
    rw [show (execOp _ _).run Tryz.prog u = .ok (.value (.slice (some ⟨u.heap.size, 0, none⟩) 1 1)) (u.alloc (.cells #[.int .i64 p0, .int .i64 p1, .int .i64 p2, .int .i64 p3] 111)) from by go_simp]
    exact ⟨u.heap.size, ⟨u.heap.size + 1, .bool false⟩, rfl, hu.next (alM_lasts _ _ _ _) ((Made.rfl_ _ _).cells (Nat.le_refl _) _ _).1 (Nat.le_refl _) (by simp) (by simp) ⟨has_new _ _ _, by simp⟩⟩
   rw [show valM 4 q2 e2 = .slice (some ⟨q2, 0, none⟩) 1 1 from rfl]
   simp only [Act.put, List.setIfInBounds_toArray, List.set_cons_succ, List.set_cons_zero]
   intro w5 hu
   have hb5 := hu.1
   obtain ⟨hq1, hq2, hq3, hq4, _⟩ := hu.2.1 4 (q2, e2) (by unfold MB.upd; simp)
   have HNb : Hid (Has w5 q2 111 #[.int .i64 p0, .int .i64 p1, .int .i64 p2, .int .i64 p3]) := hq4
   have HG5 := hid (HG4.out.below hb5 HG4.out.here)
   have H05 := hid (H04.out.below hb5 H04.out.here)
   have HO5 := hid (own_below (B := 0) HO4.out hb5)
   have HB5 : Hid (Below g0 w w5) := HB4.out.trans (hb5.mono (by rw [← eg0]; exact HB4.out.size))
   clear hu hb5 hq1 hq2 hq3 hq4 HX4 HG4 H04 HO4 HB4 ep0 ep1 ep2 ep3
   have hs5 : g0 ≤ w5.heap.size := by rw [← eg0]; exact HB5.out.size
   have hg15 := HG5.out.here
   simp only [List.drop_succ_cons, List.drop_zero]
   refine (wpList_append_at rfl (.tmp 15) (.tmp 18) 95 rfl g0 111 iO (.agg #[.int .i64 0, .int .i64 0, .int .i64 0, .int .i64 0]) 4 32 Tryz.underlying95 iHi.out iH0.out iH1.out iH2.out rfl (by decide) (.slice om k cm) k (flatE encM (L.take k)) rfl HO5.out ⟨q2, 0, none⟩ 1 1 [.int .i64 p0, .int .i64 p1, .int .i64 p2, .int .i64 p3] rfl rfl (has_news HNb.out) (by rw [← HEM.out]; exact encM_one x) (by unfold maxLen; omega) (by omega) (by omega) (by omega) ?_)
   intro v6 w6 hown hbt hnx
   have hg1n : some g1 ≠ (Value.slice om k cm).ownBlock := own_apart HO5.out HG5.out (by decide)
   have hg0n : some g0 ≠ (Value.slice om k cm).ownBlock := own_apart HO5.out H05.out (by decide)
   have HG6 := hid (HG5.out.but hbt hg1n)
   have H06 := hid (H05.out.but hbt hg0n)
   have HB6 : Hid (Below g0 w w6) := HB5.out.trans (hbt.blw hs5 (fun b hb => (HO5.out.lt b hb.symm).1))
   rw [← HEM.out, flatE_snoc, ← take_snoc HX.out] at hown
   obtain ⟨om6, cm6, rfl⟩ : ∃ o c, v6 = .slice o (k + 1) c := by
    rcases hown.2 with ⟨_, h⟩ | ⟨g, cap, cur, e, _⟩
    ·omega
    ·exact ⟨_, _, e⟩
   have hg1o : some g1 ≠ (Value.slice om6 (k + 1) cm6).ownBlock := own_apart hown HG6.out (by decide)
   have HN1 : Hid (Has (w6.setCell ⟨g1, 1, none⟩ (.slice om6 (k + 1) cm6)) g1 97 #[.slice (some ⟨bb, off, none⟩) n cb, .slice om6 (k + 1) cm6]) := by
    have := HG6.out.put 1 (.slice om6 (k + 1) cm6)
    unfold Hid
    simpa using this
   have HN2 : Hid ((w6.setCell ⟨g1, 1, none⟩ (.slice om6 (k + 1) cm6)).ownsRow g0 111 4 (.slice om6 (k + 1) cm6) (k + 1) (flatE encM (L.take (k + 1)))) := own_other hown (p := ⟨g1, 1, none⟩) (fun e => hg1o e.symm) _
   have HN3 : Hid (Has (w6.setCell ⟨g1, 1, none⟩ (.slice om6 (k + 1) cm6)) g0 97 #[.slice none 0 0, .slice none 0 0]) := H06.out.other ⟨g1, 1, none⟩ (by show g0 ≠ g1; omega) _
   have HN4 : Hid (Below g0 w (w6.setCell ⟨g1, 1, none⟩ (.slice om6 (k + 1) cm6))) := by
    have h := HB6.out
    exact ⟨h.os, h.tape, h.output, Nat.le_trans h.size (by simp [World.setCell]), fun b hb => (Below.heap_setCell w6 ⟨g1, 1, none⟩ _ b (by show b ≠ g1; omega)).trans (h.block b hb)⟩
   have lg6 := HG6.out.here
   have c61 : w6.cell? ⟨g1, 1, none⟩ = some (.slice om k cm) := by rw [HG6.out.at_]; rfl
   have z61 := HG6.out.free 1
   clear hown hbt hnx hg1n hg0n hg1o HG5 H05 HO5 HB5 HNb
   go_wp2_with fail
   refine NoPanic.normal ?_
   go_wp2_with fail
   go_roundg (n - (k + 1))
   case measure => omega
   case rel => exact ⟨k + 1, by omega, by go_num, ⟨om6, cm6, HN1.out, HN2.out⟩, HN3.out, HN4.out⟩
  ·have e : k = n := by omega
   subst e
   go_wp2_with (first
    | refine wpList_load_row rfl 97 (.tmp 3) rfl g1 rfl 97 _ (0, 0) _ HG1.out Tryz.underlying97 rfl (by kernel_rfl) ?_
    | refine wpList_store_row rfl 97 (.tmp 2) (.tmp 22) rfl g0 #[.slice ao k cb, .slice om k cm] rfl rfl 97 _ H0.out (by kernel_rfl) rfl (by simp [Value.oneCell']) ?_)
   have hr := setRow_heap wr g0 #[.slice none 0 0, .slice none 0 0] #[.slice ao k cb, .slice om k cm] 97 (0, 0) H0.out
   refine bodyPost_ret (v := .agg #[.slice ao k cb, .slice om k cm]) (results_cell_row (p := 2) (ty := 97) rfl _ _ g0 97 _ (0, 0) _ rfl hr Tryz.underlying97 rfl (by kernel_rfl)) rfl ⟨om, cm, rfl, ?_, ?_⟩
   ·rw [eg0]
    exact ⟨HB.out.os, HB.out.tape, HB.out.output, Nat.le_trans HB.out.size (by simp [World.setRow]), fun b hb => (setRow_other wr g0 b _ (by omega)).trans (HB.out.block b hb)⟩
   ·rw [eg0]
    have h := HO.out
    rw [List.take_of_length_le (by rw [HN.out]; exact Nat.le_refl _)] at h
    refine own_apart_row h ?_ _
    exact fun e => own_apart h H0.out (by decide) e
end Go.Proofs.YtcfphdcinihdbaaGreat.Fx
/- Package solve: bodies copied. -/
namespace Go.Proofs.YtcfphdcinihdbaaGreat.Fx
open Go.ChangeShapes Go.WideShapes Go.ChangeAt Go.RowKit
set_option linter.unusedVariables false
theorem copied_c {X : Nat → Prop} {L : List Bd} {ob : Option Addr} {n cb : Nat} {w : World} (hL : WLs X w ob cb L none 0 [] none 0 []) (hn : L.length = n) (hm : n ≤ 1073741824) (h8 : ∀ b ∈ L, b.n ≤ 8) :
  Calls Tryz.prog 72 #[.slice ob n cb] w fun e v => ∃ ob' cb' B', e = .returned (.slice ob' n cb') ∧ Made w.heap.size w v ∧ SameBs L B' ∧ NewL encB 11 45 w v ob' n cb' B' ∧ ∀ b ∈ B', Mine (fun g => ob' = some ⟨g, 0, none⟩) w.heap.size v b := by
 have H := hid (wcopy_x 0 0 0 0 0 ob none none n cb 0 0 0 0 hL hn rfl rfl hm (by omega) (by omega) h8)
 have HN := hid hn
 clear hL hn h8
 go_enter Tryz.func72, Tryz.ntmps72
 go_wp2_with fail
 refine H.out.mono ?_
 rintro e v ⟨B', ob', oj', oc', cb', cj', cc', rfl, k, hl, hs, hB, hJ, hC, hO, hNN, hM⟩
 have K := hid k
 have HS : Hid (SameBs L B') := ⟨by rw [hl, HN.out], hs⟩
 have HB := hid hB
 have HM : Hid (∀ b ∈ B', Mine (fun g => ob' = some ⟨g, 0, none⟩) w.heap.size v b) := fun b hb => (hM b hb).more fun g hg => .inl (by first | exact .inl hg | exact hg)
 clear k hl hs hB hJ hC hO hNN hM H
 have hf : (Instr.field 32 (wdV 0 0 0 0 0 (.slice ob' n cb') (.slice oj' 0 cj') (.slice oc' 0 cc')) 4).run Tryz.prog v = .ok (.slice ob' n cb') v := by kernel_rfl
 go_wp2_with fail
 go_ret
 exact ⟨_, _, _, rfl, K.out, HS.out, HB.out, HM.out⟩
end Go.Proofs.YtcfphdcinihdbaaGreat.Fx
/- Package solve: rows as presses. -/
namespace Go.Proofs.YtcfphdcinihdbaaGreat.Fx
open Go.ChangeShapes Go.WideShapes Go.ChangeAt Go.RowKit
set_option linter.unusedVariables false
def encR (r : Ro) : List Value := [.int .i64 (r.a : Nat), .int .i64 (r.b : Nat), .int .i64 r.key, .int .i64 r.n.1, .int .i64 r.n.2, .int .i64 r.ra.1, .int .i64 r.ra.2, .int .i64 r.rb.1, .int .i64 r.rb.2, .int .i64 r.gn, .int .i64 r.gt, .int .i64 r.out, .int .i64 r.N, .int .i64 r.T]
theorem encR_len (r : Ro) : (encR r).length = 14 := rfl
structure Lk where
 a : Nat
 b : Nat
 m1 : Int
 i1 : Int
 v1 : Int
 s1 : Int
 m2 : Int
 i2 : Int
 v2 : Int
 s2 : Int
 ra : Int × Int
 rb : Int × Int
def encL (gb : Nat) (l : Lk) : List Value := [.pointer (some ⟨gb, l.a * 11, none⟩), .pointer (some ⟨gb, l.b * 11, none⟩), .int .i64 l.m1, .int .i64 l.i1, .int .i64 l.v1, .int .i64 l.s1, .int .i64 l.m2, .int .i64 l.i2, .int .i64 l.v2, .int .i64 l.s2, .int .i64 l.ra.1, .int .i64 l.ra.2, .int .i64 l.rb.1, .int .i64 l.rb.2]
def zBd : Bd := ⟨0, 0, 0, 0, 0, 0, 0, 0, 0, 0, none, 0, 0, fun _ => (0, 0)⟩
def bdAt (L : List Bd) (i : Nat) : Bd := (L[i]?).getD zBd
theorem bdAt_is {L : List Bd} {i : Nat} {b : Bd} (h : L[i]? = some b) : bdAt L i = b := by unfold bdAt; rw [h]; rfl
def lkOf (L : List Bd) (i k : Nat) (ra rb : Int × Int) : Lk := ⟨i, k, mA (bdAt L i), mI (bdAt L i), moveB (bdAt L i), spinB (bdAt L i), mA (bdAt L k), mI (bdAt L k), moveB (bdAt L k), spinB (bdAt L k), ra, rb⟩
def encPr (gr gb : Nat) (p : Nat × Lk) : List Value := .pointer (some ⟨gr, p.1 * 14, none⟩) :: encL gb p.2
theorem encPr_len (gr gb : Nat) (p : Nat × Lk) : (encPr gr gb p).length = 15 := rfl
def prOf (L : List Bd) (i : Nat) (r : Ro) : Nat × Lk := (i, lkOf L r.a r.b r.ra r.rb)
def presL (L : List Bd) (R : List Ro) : List (Nat × Lk) := R.mapIdx fun i r => prOf L i r
theorem pres_at {L : List Bd} {R : List Ro} {i : Nat} {r : Ro} (h : R[i]? = some r) : (presL L R)[i]? = some (prOf L i r) := by
 unfold presL; rw [List.getElem?_mapIdx, h]; rfl
theorem pres_len (L : List Bd) (R : List Ro) : (presL L R).length = R.length := by unfold presL; simp
theorem alc_L {d : Tmp} {ty : TypeId} {ps : String} {af : Array Edge} : Alc Tryz.prog { dst := some d, op := .alloc 144, type := ty, pos := ps, after := af, guard := none } d 144 #[.pointer none, .pointer none, .int .i64 0, .int .i64 0, .int .i64 0, .int .i64 0, .int .i64 0, .int .i64 0, .int .i64 0, .int .i64 0, .int .i64 0, .int .i64 0, .int .i64 0, .int .i64 0] :=
 ⟨rfl, rfl, fun a w => by go_simp⟩
theorem infoPr : (Tryz.prog.info? 146).map (fun i => (i.zero, i.size, i.bytes)) = some (some (.agg #[.pointer none, .pointer none, .pointer none, .int .i64 0, .int .i64 0, .int .i64 0, .int .i64 0, .int .i64 0, .int .i64 0, .int .i64 0, .int .i64 0, .int .i64 0, .int .i64 0, .int .i64 0, .int .i64 0]), 15, 120) := by kernel_rfl
theorem encPr_one (gr gb : Nat) (p : Nat × Lk) : ∀ v ∈ encPr gr gb p, v.oneCell' = true := by
 intro v hv; simp [encPr, encL] at hv; rcases hv with rfl | rfl | rfl | rfl | rfl | rfl | rfl | rfl | rfl | rfl | rfl | rfl | rfl | rfl | rfl <;> rfl
theorem RowL.elt {α : Type} {enc : α → List Value} {k : Nat} {w : World} {g n : Nat} {t : TypeId} {l : List α} (h : RowL enc k w g t n l) {i : Nat} {x : α} (hx : l[i]? = some x) : ∀ j u, (enc x)[j]? = some u → w.cell? ⟨g, i * k + j, none⟩ = some u := fun j u hu => by
 obtain ⟨_, A, hA, _, h⟩ := h
 rw [hA.at_]
 exact h i x hx j u hu
theorem presses_c {gb gm gr n m cb cm cr : Nat} {t : TypeId} {L : List Bd} {R : List Ro} {w : World} (hM : LsB encM 4 w gm 0 L) (hgm : gm < w.heap.size) (hn : L.length = n) (hR : RowL encR 14 w gr t m R) (hv : ∀ r ∈ R, r.a < n ∧ r.b < n) (hmx : m ≤ 1073741824) (hcr : m ≤ cr) (hcm : cr ≤ maxLen) :
  Calls Tryz.prog 73 #[.agg #[.slice (some ⟨gb, 0, none⟩) n cb, .slice (some ⟨gm, 0, none⟩) n cm], .slice (some ⟨gr, 0, none⟩) m cr] w fun e w' => ∃ op cp, e = .returned (.slice op m cp) ∧ Made w.heap.size w w' ∧ w'.ownsRow w.heap.size 146 15 (.slice op m cp) m (flatE (encPr gr gb) (presL L R)) := by
 have HN := hid hn
 have HRm : Hid (R.length = m) := hR.1
 have hrs := hR.here
 have HM := hid (fun v (k : Made w.heap.size w v) => hM.below k.1 hgm)
 have HR := hid (fun v (k : Made w.heap.size w v) => hR.stays k hrs)
 have HV := hid hv
 obtain ⟨iO, hiO, hz0, hz1, hz2⟩ := info_parts infoPr
 have iHi := hid hiO; have iH0 := hid hz0; have iH1 := hid hz1; have iH2 := hid hz2
 have HW0 : Hid (Has (w.alloc (.cells #[.slice (some ⟨gb, 0, none⟩) n cb, .slice (some ⟨gm, 0, none⟩) n cm] 97)) w.heap.size 97 #[.slice (some ⟨gb, 0, none⟩) n cb, .slice (some ⟨gm, 0, none⟩) n cm]) := has_new _ _ _
 have HB0 : Hid (Made w.heap.size w (w.alloc (.cells #[.slice (some ⟨gb, 0, none⟩) n cb, .slice (some ⟨gm, 0, none⟩) n cm] 97))) := (Made.rfl_ _ _).cells (Nat.le_refl _) _ _
 obtain ⟨g0, eg0⟩ : ∃ g, w.heap.size = g := ⟨_, rfl⟩
 rw [eg0] at HW0
 clear hM hn hR hv hiO hz0 hz1 hz2 hrs
 go_enter Tryz.func73, Tryz.ntmps73
 go_wp2_with fail
 go_loopg [5, 12] m (fun gg s5 s12 wx => ∃ k : Nat, k + gg = m ∧ s12 = .int .i64 (k : Nat) ∧ (∃ op cp, s5 = .slice op k cp ∧ Hid (wx.ownsRow g0 146 15 (.slice op k cp) k (flatE (encPr gr gb) ((presL L R).take k)))) ∧ Hid (Has wx g0 97 #[.slice (some ⟨gb, 0, none⟩) n cb, .slice (some ⟨gm, 0, none⟩) n cm]) ∧ Hid (Made w.heap.size w wx))
 case atStart => exact ⟨0, by omega, by first | rfl | trivial, ⟨none, 0, rfl, World.ownsRow_nil _ _ _ _⟩, HW0.out, HB0.out⟩
 case round =>
  obtain ⟨k, hk, rfl, ⟨op, cp, rfl, HO⟩, HC, HB⟩ := hrel
  clear HW0 HB0
  by_cases hkm : k < m
  ·obtain ⟨r, hr⟩ : ∃ r, R[k]? = some r := ⟨_, List.getElem?_eq_getElem (by rw [HRm.out]; exact hkm)⟩
   obtain ⟨hva, hvb⟩ := HV.out r (List.mem_of_getElem? hr)
   have HPx := hid (pres_at (L := L) hr)
   have hRx := (HR.out wr HB.out).elt hr
   obtain ⟨x, hx⟩ : ∃ x, L[r.a]? = some x := ⟨_, List.getElem?_eq_getElem (by rw [HN.out]; exact hva)⟩
   obtain ⟨y, hy⟩ : ∃ y, L[r.b]? = some y := ⟨_, List.getElem?_eq_getElem (by rw [HN.out]; exact hvb)⟩
   obtain ⟨oa, eoa⟩ : ∃ o, r.a * 11 = o := ⟨_, rfl⟩
   obtain ⟨ob, eob⟩ : ∃ o, r.b * 11 = o := ⟨_, rfl⟩
   obtain ⟨og, eog⟩ : ∃ o, k * 14 = o := ⟨_, rfl⟩
   have q0 := hRx 0 _ rfl
   have q1 := hRx 1 _ rfl
   have q5 := hRx 5 _ rfl
   have q6 := hRx 6 _ rfl
   have q7 := hRx 7 _ rfl
   have q8 := hRx 8 _ rfl
   rw [eog] at q0 q1 q5 q6 q7 q8
   rw [Nat.add_zero] at q0
   obtain ⟨i, ei⟩ : ∃ i, r.a = i := ⟨_, rfl⟩
   obtain ⟨j, ej⟩ : ∃ j, r.b = j := ⟨_, rfl⟩
   obtain ⟨rax, e5⟩ : ∃ z, r.ra.1 = z := ⟨_, rfl⟩
   obtain ⟨ray, e6⟩ : ∃ z, r.ra.2 = z := ⟨_, rfl⟩
   obtain ⟨rbx, e7⟩ : ∃ z, r.rb.1 = z := ⟨_, rfl⟩
   obtain ⟨rby, e8⟩ : ∃ z, r.rb.2 = z := ⟨_, rfl⟩
   rw [ei] at q0 hva hx eoa
   rw [ej] at q1 hvb hy eob
   rw [e5] at q5; rw [e6] at q6; rw [e7] at q7; rw [e8] at q8
   have HLK : Hid (encPr gr gb (prOf L k r) = [.pointer (some ⟨gr, og, none⟩), .pointer (some ⟨gb, oa, none⟩), .pointer (some ⟨gb, ob, none⟩), .int .i64 (mA x), .int .i64 (mI x), .int .i64 (moveB x), .int .i64 (spinB x), .int .i64 (mA y), .int .i64 (mI y), .int .i64 (moveB y), .int .i64 (spinB y), .int .i64 rax, .int .i64 ray, .int .i64 rbx, .int .i64 rby]) := by
    unfold Hid encPr prOf lkOf encL
    simp only
    rw [ei, ej, bdAt_is hx, bdAt_is hy, e5, e6, e7, e8, eoa, eob, eog]
   have HLC := hid (fun v (k2 : Made wr.heap.size wr v) => link_c (gb := gb) (ob := 0) (cb := cb) (cm := cm) (oa := oa) (ok := ob) rax ray rbx rby v ((HM.out v (HB.out.then_ (k2.low HB.out.1.size)))) hx hy hva hvb (by omega) (by omega))
   clear hr hRx hx hy ei ej e5 e6 e7 e8 eoa eob
   go_upto_region 6 with fail
   obtain ⟨A0, a0⟩ : ∃ z, mA x = z := ⟨_, rfl⟩
   obtain ⟨A1, a1⟩ : ∃ z, mI x = z := ⟨_, rfl⟩
   obtain ⟨A2, a2⟩ : ∃ z, moveB x = z := ⟨_, rfl⟩
   obtain ⟨A3, a3⟩ : ∃ z, spinB x = z := ⟨_, rfl⟩
   obtain ⟨B0, b0⟩ : ∃ z, mA y = z := ⟨_, rfl⟩
   obtain ⟨B1, b1⟩ : ∃ z, mI y = z := ⟨_, rfl⟩
   obtain ⟨B2, b2⟩ : ∃ z, moveB y = z := ⟨_, rfl⟩
   obtain ⟨B3, b3⟩ : ∃ z, spinB y = z := ⟨_, rfl⟩
   rw [a0, a1, a2, a3, b0, b1, b2, b3] at HLC HLK
   clear a0 a1 a2 a3 b0 b1 b2 b3
   refine reg_late1 21 48 20 8 144 #[.pointer none, .pointer none, .int .i64 0, .int .i64 0, .int .i64 0, .int .i64 0, .int .i64 0, .int .i64 0, .int .i64 0, .int .i64 0, .int .i64 0, .int .i64 0, .int .i64 0, .int .i64 0] _ (by kernel_rfl) (by kernel_rfl) (fun o ho => by cases ho; exact extract_pure rfl) (.inl (by omega)) (by kernel_rfl) rfl rfl alc_L ?_
   apply Exists.intro
   refine ⟨?h1, ?h2⟩
   case h1 =>
    intro T hT fw hf
    have q0 := Class.reads hf q0
    have q1 := Class.reads hf q1
    have q5 := Class.reads hf q5
    have q6 := Class.reads hf q6
    have q7 := Class.reads hf q7
    have q8 := Class.reads hf q8
    have c0 := Class.reads hf (p := ⟨g0, 0, none⟩) (u := .slice (some ⟨gb, 0, none⟩) n cb) (by rw [HC.out.at_]; rfl)
    have c1 := Class.reads hf (p := ⟨g0, 1, none⟩) (u := .slice (some ⟨gm, 0, none⟩) n cm) (by rw [HC.out.at_]; rfl)
    have HL2 := hid (fun t => hf.made (x := t) (HLC.out _ (hf.1 t)))
    simp only [List.take_succ_cons, List.take_zero]
    repeat (go_big_quiet_step ((go_at_call 94; exact HL2.out _)))
    exact wpQuiet_nil rfl
   intro g8 v k8 hg8 hh8
   have HO8 := hid (own_stays HO.out k8)
   have HC8 := hid (HC.out.stays k8 HC.out.here)
   have HB8 : Hid (Made w.heap.size w v) := HB.out.then_ (k8.low HB.out.1.size)
   have hgs := HB.out.1.size
   have hg8' : g0 < g8 := by have := HC.out.here; omega
   clear k8 HO HC HB q0 q1 q5 q6 q7 q8 HLC hg8
   have hsz : (Tryz.prog.info? 144).map (·.size) = some 14 := by kernel_rfl
   simp only [List.drop_succ_cons, List.drop_zero]
   go_wp2_with (refine wpList_store_row rfl 144 (.tmp 8) (.tmp 37) rfl g8 #[.pointer (some ⟨gb, oa, none⟩), .pointer (some ⟨gb, ob, none⟩), .int .i64 A0, .int .i64 A1, .int .i64 A2, .int .i64 A3, .int .i64 B0, .int .i64 B1, .int .i64 B2, .int .i64 B3, .int .i64 rax, .int .i64 ray, .int .i64 rbx, .int .i64 rby] rfl rfl 144 _ hh8 hsz rfl (by simp [Value.oneCell']) ?_)
   refine NoPanic.normal ?_
   obtain ⟨W9, e9⟩ : ∃ V, V = v.setRow g8 #[.pointer (some ⟨gb, oa, none⟩), .pointer (some ⟨gb, ob, none⟩), .int .i64 A0, .int .i64 A1, .int .i64 A2, .int .i64 A3, .int .i64 B0, .int .i64 B1, .int .i64 B2, .int .i64 B3, .int .i64 rax, .int .i64 ray, .int .i64 rbx, .int .i64 rby] := ⟨_, rfl⟩
   have HX9 : Hid (Has W9 g8 144 #[.pointer (some ⟨gb, oa, none⟩), .pointer (some ⟨gb, ob, none⟩), .int .i64 A0, .int .i64 A1, .int .i64 A2, .int .i64 A3, .int .i64 B0, .int .i64 B1, .int .i64 B2, .int .i64 B3, .int .i64 rax, .int .i64 ray, .int .i64 rbx, .int .i64 rby]) := by unfold Hid; rw [e9]; exact setRow_heap v _ _ _ _ _ hh8
   have HO9 : Hid (W9.ownsRow g0 146 15 (.slice op k cp) k (flatE (encPr gr gb) ((presL L R).take k))) := by unfold Hid; rw [e9]; exact own_apart_row HO8.out (own_apart HO8.out hh8 (by decide)) _
   have HC9 : Hid (Has W9 g0 97 #[.slice (some ⟨gb, 0, none⟩) n cb, .slice (some ⟨gm, 0, none⟩) n cm]) := by
    unfold Hid; rw [e9]
    exact (setRow_other v g8 g0 _ (by omega)).trans HC8.out
   have HB9 : Hid (Made w.heap.size w W9) := by unfold Hid; rw [e9]; exact HB8.out.setRow (by omega) _
   try simp only [Act.put]
   rw [← e9]
   clear e9 hh8 HO8 HC8 HB8
   have HOw : Hid ((W9.alloc (.cells #[.pointer (some ⟨gr, og, none⟩), .pointer (some ⟨gb, oa, none⟩), .pointer (some ⟨gb, ob, none⟩), .int .i64 A0, .int .i64 A1, .int .i64 A2, .int .i64 A3, .int .i64 B0, .int .i64 B1, .int .i64 B2, .int .i64 B3, .int .i64 rax, .int .i64 ray, .int .i64 rbx, .int .i64 rby] 146)).ownsRow g0 146 15 (.slice op k cp) k (flatE (encPr gr gb) ((presL L R).take k))) := HO9.out.alloc _
   have HNb : Hid (Has (W9.alloc (.cells #[.pointer (some ⟨gr, og, none⟩), .pointer (some ⟨gb, oa, none⟩), .pointer (some ⟨gb, ob, none⟩), .int .i64 A0, .int .i64 A1, .int .i64 A2, .int .i64 A3, .int .i64 B0, .int .i64 B1, .int .i64 B2, .int .i64 B3, .int .i64 rax, .int .i64 ray, .int .i64 rbx, .int .i64 rby] 146)) W9.heap.size 146 #[.pointer (some ⟨gr, og, none⟩), .pointer (some ⟨gb, oa, none⟩), .pointer (some ⟨gb, ob, none⟩), .int .i64 A0, .int .i64 A1, .int .i64 A2, .int .i64 A3, .int .i64 B0, .int .i64 B1, .int .i64 B2, .int .i64 B3, .int .i64 rax, .int .i64 ray, .int .i64 rbx, .int .i64 rby]) := has_new _ _ _
   have HCw : Hid (Has (W9.alloc (.cells #[.pointer (some ⟨gr, og, none⟩), .pointer (some ⟨gb, oa, none⟩), .pointer (some ⟨gb, ob, none⟩), .int .i64 A0, .int .i64 A1, .int .i64 A2, .int .i64 A3, .int .i64 B0, .int .i64 B1, .int .i64 B2, .int .i64 B3, .int .i64 rax, .int .i64 ray, .int .i64 rbx, .int .i64 rby] 146)) g0 97 #[.slice (some ⟨gb, 0, none⟩) n cb, .slice (some ⟨gm, 0, none⟩) n cm]) := HC9.out.more _
   have HBw : Hid (Made w.heap.size w (W9.alloc (.cells #[.pointer (some ⟨gr, og, none⟩), .pointer (some ⟨gb, oa, none⟩), .pointer (some ⟨gb, ob, none⟩), .int .i64 A0, .int .i64 A1, .int .i64 A2, .int .i64 A3, .int .i64 B0, .int .i64 B1, .int .i64 B2, .int .i64 B3, .int .i64 rax, .int .i64 ray, .int .i64 rbx, .int .i64 rby] 146))) := HB9.out.cells HB9.out.1.size _ _
   have hs5 : g0 ≤ W9.heap.size := by rw [← eg0]; exact HB9.out.1.size
   have HE1 : Hid (∀ u ∈ ([.pointer (some ⟨gr, og, none⟩), .pointer (some ⟨gb, oa, none⟩), .pointer (some ⟨gb, ob, none⟩), .int .i64 A0, .int .i64 A1, .int .i64 A2, .int .i64 A3, .int .i64 B0, .int .i64 B1, .int .i64 B2, .int .i64 B3, .int .i64 rax, .int .i64 ray, .int .i64 rbx, .int .i64 rby] : List Value), u.oneCell' = true) := by unfold Hid; rw [← HLK.out]; exact encPr_one gr gb _
   go_wp2_with (first
    | refine wpList_load_row rfl 144 (.tmp 8) rfl g8 rfl 144 _ (0, 0) _ HX9.out Tryz.underlying144 rfl hsz ?_
    | (at_builtin; refine wpList_append_at rfl (.tmp 40) (.tmp 44) 138 rfl g0 146 iO (.agg #[.pointer none, .pointer none, .pointer none, .int .i64 0, .int .i64 0, .int .i64 0, .int .i64 0, .int .i64 0, .int .i64 0, .int .i64 0, .int .i64 0, .int .i64 0, .int .i64 0, .int .i64 0, .int .i64 0]) 15 120 Tryz.underlying138 iHi.out iH0.out iH1.out iH2.out rfl (by decide) (.slice op k cp) k (flatE (encPr gr gb) ((presL L R).take k)) rfl HOw.out ⟨W9.heap.size, 0, none⟩ 1 1 [.pointer (some ⟨gr, og, none⟩), .pointer (some ⟨gb, oa, none⟩), .pointer (some ⟨gb, ob, none⟩), .int .i64 A0, .int .i64 A1, .int .i64 A2, .int .i64 A3, .int .i64 B0, .int .i64 B1, .int .i64 B2, .int .i64 B3, .int .i64 rax, .int .i64 ray, .int .i64 rbx, .int .i64 rby] rfl rfl (has_news HNb.out) HE1.out (by unfold maxLen; omega) (by omega) (by simp; omega) (by omega) ?_))
   intro v6 w6 hown hbt hnx
   have hg0n : some g0 ≠ (Value.slice op k cp).ownBlock := own_apart HOw.out HCw.out (by decide)
   have HC6 := hid (HCw.out.but hbt hg0n)
   have HB6 : Hid (Made w.heap.size w w6) := But.made_ HBw.out hbt (by simp; omega) (fun b hb => by have := (HOw.out.lt b hb.symm).1; omega)
   rw [← HLK.out, flatE_snoc, ← take_snoc HPx.out] at hown
   obtain ⟨om6, cm6, rfl⟩ : ∃ o c, v6 = .slice o (k + 1) c := by
    rcases hown.2 with ⟨_, h⟩ | ⟨g, cap, cur, e, _⟩
    ·omega
    ·exact ⟨_, _, e⟩
   have HO6 := hid hown
   clear hown hbt hnx hg0n HOw HNb HCw HBw HO9 HC9 HB9 HX9
   go_wp2_with fail
   go_roundg (m - (k + 1))
   case measure => omega
   case rel => exact ⟨k + 1, by omega, by go_num, ⟨om6, cm6, rfl, HO6.out⟩, HC6.out, HB6.out⟩
  ·have e : k = m := by omega
   subst e
   go_wp2_with fail
   go_ret
   refine ⟨op, cp, rfl, HB.out, ?_⟩
   rw [eg0]
   have h := HO.out
   rw [List.take_of_length_le (by rw [pres_len, HRm.out]; exact Nat.le_refl _)] at h
   exact h
end Go.Proofs.YtcfphdcinihdbaaGreat.Fx
/- Regions that draw their order, the head of which is no first stretch of the text: as Mak, with a set of operations in the place of 'the first k'. -/
namespace Go.Proofs.YtcfphdcinihdbaaGreat.Fx.MS
open Go.ChangeShapes Go.WideShapes Go.ChangeAt Go.RowKit MK
set_option linter.unusedVariables false
structure HI (md : Region.Mode) (ops : Array Oper) (hd : Nat → Bool) (listed : Array Bool) : Prop where
 size : listed.size = ops.size
 closed : ∀ j oj, ops[j]? = some oj → listed.getD j false = true → ∀ e ∈ oj.after, Region.binds md e = true → listed.getD e.on false = true
 tail : ∀ t, t < ops.size → hd t = false → listed.getD t true = false
section
variable {ops : Array Oper} {md : Region.Mode} {hd : Nat → Bool}
theorem HI.set {i : Nat} {listed : Array Bool} (inv : HI md ops hd listed) (hi : i ∈ Region.ready md ops listed) (hin : hd i = true) : HI md ops hd (listed.setIfInBounds i true) := by
 obtain ⟨_, oi, hoi, hall⟩ := mem_ready.1 hi
 refine ⟨by simp [inv.size], fun j oj hj hl e he hb => ?_, fun t ht ht' => by rw [getD_set_ne true (fun e => by rw [e, ht'] at hin; cases hin)]; exact inv.tail t ht ht'⟩
 by_cases hij : i = j
 ·subst hij
  have : oj = oi := Option.some.inj (hj.symm.trans hoi)
  subst this
  exact getD_set_true (hall e he hb)
 ·rw [getD_set_ne false hij] at hl
  exact getD_set_true (inv.closed j oj hj hl e he hb)
theorem down_gotS {got : Array Bool} (inv : HI md ops hd got) : ∀ (f : Nat) (S : List Nat), (∀ j, j ∈ S → got.getD j false = true) → ∀ i, i ∈ down md ops f S → got.getD i false = true
 | 0, S, h, i, hi => h i hi
 | f + 1, S, h, i, hi => by
  refine down_gotS inv f _ (fun j hj => ?_) i hi
  have h1 := (List.mem_filter.1 hj).2
  simp only [Bool.or_eq_true, List.contains_iff_mem, List.any_eq_true] at h1
  rcases h1 with h1 | ⟨m, hm, h2⟩
  ·exact h j h1
  ·obtain ⟨o', ho', e, he, hb, hon⟩ := Region.waitsFor_spec h2
   rw [← hon]
   exact inv.closed m o' ho' (h m hm) e he hb
def chainS (md : Region.Mode) (ops : Array Oper) (hd : Nat → Bool) (k : Nat) : Bool :=
 (List.range ops.size).all fun t => hd t || t == k || (List.range ops.size).any fun u => !hd u && Region.waitsFor md ops t u
theorem ready_leS {k j : Nat} {got : Array Bool} (hc : chainS md ops hd k = true) (inv : HI md ops hd got) (hj : j ∈ Region.ready md ops got) : hd j = true ∨ j = k := by
 obtain ⟨_, ot, hot, hall⟩ := mem_ready.1 hj
 have htlt : j < ops.size := (Array.getElem?_eq_some_iff.1 hot).1
 have h1 := List.all_eq_true.1 hc j (List.mem_range.2 htlt)
 simp only [Bool.or_eq_true, beq_iff_eq] at h1
 rcases h1 with (h1 | h1) | h1
 ·exact .inl h1
 ·exact .inr h1
 ·obtain ⟨u, hu, h2⟩ := List.any_eq_true.1 h1
  simp only [Bool.and_eq_true, Bool.not_eq_true'] at h2
  obtain ⟨o', ho', e, he, hb, hon⟩ := Region.waitsFor_spec h2.2
  have e1 : o' = ot := Option.some.inj (ho'.symm.trans hot)
  subst e1
  have h3 := hall e he hb
  rw [hon, getD_both (inv.tail u (List.mem_range.1 hu) h2.1)] at h3
  cases h3
def waitS (md : Region.Mode) (ops : Array Oper) (hd : Nat → Bool) (k : Nat) (ps : List Nat) : Bool := (List.range ops.size).all fun i => !hd i || ps.contains i || Region.waitsFor md ops k i || (down md ops 6 ((List.range ops.size).filter fun j => Region.waitsFor md ops k j)).contains i
theorem ready_lastS {k i : Nat} {ps : List Nat} {got : Array Bool} (hw : waitS md ops hd k ps = true) (inv : HI md ops hd got) (hj : k ∈ Region.ready md ops got) (hi : hd i = true) (his : i < ops.size) (hun : got.getD i true = false) : i ∈ ps := by
 have h1 := List.all_eq_true.1 hw i (List.mem_range.2 his)
 simp only [Bool.or_eq_true, Bool.not_eq_true', List.contains_iff_mem] at h1
 obtain ⟨_, ot, hot, hall⟩ := mem_ready.1 hj
 have direct : ∀ j, Region.waitsFor md ops k j = true → got.getD j false = true := fun j h => by
  obtain ⟨o', ho', e, he, hb, hon⟩ := Region.waitsFor_spec h
  have e1 : o' = ot := Option.some.inj (ho'.symm.trans hot)
  subst e1
  rw [← hon]
  exact hall e he hb
 have no : got.getD i false = true → False := fun h => by rw [getD_both hun] at h; cases h
 rcases h1 with ((h1 | h1) | h1) | h1
 ·rw [hi] at h1; cases h1
 ·exact h1
 ·exact (no (direct i h1)).elim
 ·exact (no (down_gotS inv 6 _ (fun j hj => direct j (List.mem_filter.1 hj).2) i h1)).elim
def seqS (md : Region.Mode) (ops : Array Oper) : List Nat → Array Bool → Bool
 | [], listed => (Region.ready md ops listed).isEmpty
 | k :: ts, listed => decide (Region.ready md ops listed = [k]) && seqS md ops ts (listed.setIfInBounds k true)
theorem seqS_ready {ts : List Nat} {listed : Array Bool} (hts : ∀ t, t ∈ ts → hd t = false) (h : seqS md ops ts listed = true) : ∀ j ∈ Region.ready md ops listed, hd j = false := by
 cases ts with
 | nil => intro j hj; simp only [seqS, List.isEmpty_iff] at h; rw [h] at hj; cases hj
 | cons k ts =>
  intro j hj
  simp only [seqS, Bool.and_eq_true, decide_eq_true_eq] at h
  rw [h.1] at hj
  have : j = k := by simpa using hj
  rw [this]
  exact hts k (List.mem_cons_self ..)
end
section
variable {P : Program} {ops : Array Oper} {md : Region.Mode} {w : World} {al : Nat → World → Nat → Nat → Prop} {val : Nat → Nat → Nat → Value} {hd : Nat → Bool} {k : Nat} {ts qs ms ps : List Nat} {dp : Nat → List Nat}
theorem dep_done {i j : Nat} {got : Array Bool} (inv : HI md ops hd got) (hj : j ∈ Region.ready md ops got) (hd : depB md ops j i = true) : got.getD i false = true := by
 obtain ⟨_, ot, hot, hall⟩ := mem_ready.1 hj
 have direct : ∀ x, Region.waitsFor md ops j x = true → got.getD x false = true := fun x h => by
  obtain ⟨o', ho', e, he, hb, hon⟩ := Region.waitsFor_spec h
  have e1 : o' = ot := Option.some.inj (ho'.symm.trans hot)
  subst e1
  rw [← hon]
  exact hall e he hb
 unfold depB at hd
 simp only [Bool.or_eq_true, List.contains_iff_mem] at hd
 rcases hd with h | h
 ·exact direct i h
 ·exact down_gotS inv 6 _ (fun x hx => direct x (List.mem_filter.1 hx).2) i h
def GM (P : Program) (md : Region.Mode) (ops : Array Oper) (hd : Nat → Bool) (w : World) (al : Nat → World → Nat → Nat → Prop) (val : Nat → Nat → Nat → Value) (k : Nat) (qs ms : List Nat) (dp : Nat → List Nat) (g : Nat) (Q : Exit → Act → World → Prop) (L : (Nat → Option (Nat × Nat)) → Array Bool → Act → Prop) : Nat → (Nat → Option (Nat × Nat)) → Array Bool → Act → Prop
 | 0, G, got, a => L G got a
 | f + 1, G, got, a => Region.ready md ops got ≠ [] ∧ ∀ i ∈ Region.ready md ops got,
   (i ∈ qs ∧ hd i = true ∧ ∃ o v, ops[i]? = some o ∧ YD P ops w al (dp i) G o v a ∧ GM P md ops hd w al val k qs ms dp g Q L f G (got.setIfInBounds i true) (a.put o.dst v)) ∨
   (i ∈ ms ∧ hd i = true ∧ ∃ o d, ops[i]? = some o ∧ MkD P w al val (dp i) G i o d a ∧ ∀ b e, GM P md ops hd w al val k qs ms dp g Q L f (MK.upd G i (b, e)) (got.setIfInBounds i true) (a.put (some d) (val i b e))) ∨
   (i = k ∧ ∀ u, Cm w al G u → wpOp P ops Q i (wpAny P md ops Q (f + g) (got.setIfInBounds i true)) a u)
theorem GM_any {g : Nat} {L : (Nat → Option (Nat × Nat)) → Array Bool → Act → Prop} {Q : Exit → Act → World → Prop}
  (hL : ∀ G got a u, Cm w al G u → L G got a → wpAny P md ops Q g got a u) :
  ∀ (f : Nat) (G : Nat → Option (Nat × Nat)) (got : Array Bool) (a : Act) (u : World), Cm w al G u → GM P md ops hd w al val k qs ms dp g Q L f G got a → wpAny P md ops Q (f + g) got a u
 | 0, G, got, a, u, hu, h => by rw [Nat.zero_add]; exact hL _ _ _ _ hu h
 | f + 1, G, got, a, u, hu, h => by
  rw [show f + 1 + g = (f + g) + 1 by omega]
  refine ⟨fun h0 => absurd h0 h.1, fun i hi => ?_⟩
  rcases h.2 i hi with ⟨_, _, o, v, ho, hy, hf⟩ | ⟨_, _, o, d, ho, ha, hf⟩ | ⟨_, hf⟩
  ·refine wpOp_of_qOp (C := Cm w al G) (K := fun a' => a' = a.put o.dst v) hu (fun a' u' hu' e => ?_) ((hy G (agree.rfl_ _ _) ⟨u, hu⟩).qOp ho rfl)
   rw [e]
   exact GM_any hL f _ _ _ _ hu' hf
  ·unfold wpOp
   simp only [ho]
   have hw : Region.wanted o (yielded ops a.tmps) = true := by unfold Region.wanted; rw [ha.guard]
   rw [if_pos hw]
   left
   have hr := ha.runs G u (agree.rfl_ _ _) hu
   unfold Oper.wp
   generalize (execOp a.eval o).run P u = r at hr
   cases r with
   | halt x w' => exact hr.elim
   | ok x w' =>
    cases x with
    | value x =>
     obtain ⟨b, e, hx, hc⟩ := hr
     rw [Oper.upon_value, ha.dst, hx]
     exact GM_any hL f _ _ _ _ hc (hf b e)
    | enter fn args =>
     rw [Oper.upon_enter]
     refine Calls.mono hr fun z u'' ⟨b, e, hz, hc⟩ => ?_
     subst hz
     simp only []
     rw [ha.dst]
     exact GM_any hL f _ _ _ _ hc (hf b e)
    | _ => exact hr.elim
  ·exact hf u hu
theorem GM_first {i g : Nat} {Q : Exit → Act → World → Prop} {oi : Oper} {v : Value} {L : (Nat → Option (Nat × Nat)) → Array Bool → Act → Prop} (hL : ∀ G got a u, Cm w al G u → L G got a → wpAny P md ops Q g got a u) (hQ : NoFrame Q) (hpu : ∀ p ∈ ps, ∀ o, ops[p]? = some o → Pure P o) (hi : ops[i]? = some oi)
  (hsel : ∀ (j : Nat) (o : Oper) cs b, ops[j]? = some o → o.op ≠ .select cs b) (hs : waitS md ops hd k ps = true) (hc : chainS md ops hd k = true) (hn : hd k = false) (hiq : i ∈ qs) (hin : hd i = true) (hdp : ∀ j m, hd j = true → m ∈ dp j → depB md ops j m = true)
  (hdone : ∀ G got a, L G got a → ∀ j ∈ Region.ready md ops got, hd j = false) :
  ∀ (f : Nat) (G : Nat → Option (Nat × Nat)) (got : Array Bool) (a : Act), HI md ops hd got →
   (∀ j oj, ops[j]? = some oj → j ≠ i → got.getD j true = false → (∀ e ∈ oj.after, Region.binds md e = true → e.on ≠ i) → oi.apart ops oj = true) →
   i ∈ Region.ready md ops got → YD P ops w al (dp i) G oi v a →
   GM P md ops hd w al val k qs ms dp g Q L f G (got.setIfInBounds i true) (a.put oi.dst v) → GM P md ops hd w al val k qs ms dp g Q L (f + 1) G got a
 | f, G, got, a, inv, hfree, hr, hy, H => by
  have hun := (mem_ready.1 hr).1
  refine ⟨fun h => (by rw [h] at hr; cases hr), fun j hj => ?_⟩
  have hle := ready_leS hc inv hj
  by_cases hji : j = i
  ·subst hji; exact .inl ⟨hiq, hin, oi, v, hi, hy, H⟩
  ·have hrj := ready_mono hj hji
   obtain ⟨hjun, oj, hoj, hall⟩ := mem_ready.1 hj
   have hnot : ∀ e ∈ oj.after, Region.binds md e = true → e.on ≠ i := fun e he hb heq => by
    have h1 := hall e he hb
    rw [heq, getD_both hun] at h1
    cases h1
   have hap := hfree j oj hoj hji hjun hnot
   obtain ⟨p1, p2, p3⟩ := Oper.apart_spec hap
   have hfree' : ∀ m ok, ops[m]? = some ok → m ≠ i → (got.setIfInBounds j true).getD m true = false → (∀ e ∈ ok.after, Region.binds md e = true → e.on ≠ i) → oi.apart ops ok = true := fun m ok hk hki hun' hno => by
    refine hfree m ok hk hki ?_ hno
    by_cases hjk : j = m
    ·subst hjk; exact hjun
    ·rw [getD_set_ne true hjk] at hun'; exact hun'
   by_cases hjl : j = k
   ·have hip : i ∈ ps := ready_lastS hs inv (by rw [← hjl]; exact hj) hin (Array.getElem?_eq_some_iff.1 hi).1 hun
    refine .inr (.inr ⟨hjl, fun u hu => ?_⟩)
    have hy' : Yields P ops oi v a := by
     rcases hy G (agree.rfl_ _ _) ⟨u, hu⟩ with ⟨hw, hv⟩ | hw
     ·exact .inl ⟨hw, hpu i hip oi hi a _ u v (hv u hu)⟩
     ·exact .inr hw
    have hQ' := hQ
    have fin : ∀ N, wpOp P ops Q j (wpAny P md ops Q N ((got.setIfInBounds i true).setIfInBounds j true)) (a.put oi.dst v) u → wpOp P ops Q j (wpAny P md ops Q (N + 1) (got.setIfInBounds j true)) a u := fun N h => by
     refine wpOp_mono (fun a' w' h3 => wpAny_first hi hsel (fun c a w h => hQ' c _ _ w h) N (got.setIfInBounds j true) a' w' hfree' (ready_mono hr (Ne.symm hji)) h3.1 ?_) (wpOp_put hoj hap (fun cs b => hsel i oi cs b hi) (fun cs b => hsel j oj cs b hoj) (fun c a w h => hQ' c _ _ w h) hy' h)
     rw [Array.setIfInBounds_comm _ _ hji]
     exact h3.2
    match f, H with
    | 0, H =>
     have X := hL _ _ _ u hu H
     match g, X with
     | 0, X => rw [X.1] at hrj; cases hrj
     | g + 1, X => rw [Nat.zero_add]; exact fin g (X.2 j hrj)
    | f + 1, H =>
     rcases H.2 j hrj with ⟨_, h, _⟩ | ⟨_, h, _⟩ | ⟨_, h⟩
     ·rw [hjl, hn] at h; cases h
     ·rw [hjl, hn] at h; cases h
     ·rw [show f + 1 + g = f + g + 1 by omega]; exact fin _ (h u hu)
   have hjn : hd j = true := hle.resolve_right hjl
   have hji' : j ∉ dp i := fun hm => by
    have := dep_done inv hr (hdp i j hin hm)
    rw [getD_both hjun] at this; cases this
   match f, H with
   | 0, H => have := hdone _ _ _ H j hrj; rw [hjn] at this; cases this
   | f + 1, H =>
    rcases H.2 j hrj with ⟨hjq, hjn', o, u, ho, hyj, hf⟩ | ⟨hjm, hjn', o, d, ho, ha, hf⟩ | ⟨h1, _⟩
    ·have e : o = oj := Option.some.inj (ho.symm.trans hoj)
     subst e
     refine .inl ⟨hjq, hjn', o, u, ho, hyj.unput (fun cs b => hsel j o cs b ho) p1, ?_⟩
     refine GM_first hL hQ hpu hi hsel hs hc hn hiq hin hdp hdone f G _ _ (inv.set hj hjn) hfree' (ready_mono hr (Ne.symm hji)) (hy.put (fun cs b => hsel i oi cs b hi) p3) ?_
     rw [Array.setIfInBounds_comm _ _ hji, ← Act.put_comm a v u p2]
     exact hf
    ·have e : o = oj := Option.some.inj (ho.symm.trans hoj)
     subst e
     refine .inr (.inl ⟨hjm, hjn', o, d, ho, ha.unput (fun cs b => hsel j o cs b ho) p1, fun b x => ?_⟩)
     have hyi : YD P ops w al (dp i) (MK.upd G j (b, x)) oi v (a.put o.dst (val j b x)) := (hy.put (fun cs b => hsel i oi cs b hi) p3).more hji'
     have hg := hf b x
     rw [← ha.dst] at hg ⊢
     refine GM_first hL hQ hpu hi hsel hs hc hn hiq hin hdp hdone f _ _ _ (inv.set hj hjn) hfree' (ready_mono hr (Ne.symm hji)) hyi ?_
     rw [Array.setIfInBounds_comm _ _ hji, ← Act.put_comm a v _ p2]
     exact hg
    ·exact absurd h1 hjl
theorem GM_firstM {i g : Nat} {Q : Exit → Act → World → Prop} {oi : Oper} {di : Tmp} {L : (Nat → Option (Nat × Nat)) → Array Bool → Act → Prop} (hi : ops[i]? = some oi) (hsel : ∀ (j : Nat) (o : Oper) cs b, ops[j]? = some o → o.op ≠ .select cs b)
  (hs : waitS md ops hd k ps = true) (hc : chainS md ops hd k = true) (hn : hd k = false) (him : i ∈ ms) (hin : hd i = true) (hips : i ∉ ps) (hdp : ∀ j m, hd j = true → m ∈ dp j → depB md ops j m = true)
  (hdone : ∀ G got a, L G got a → ∀ j ∈ Region.ready md ops got, hd j = false) :
  ∀ (f : Nat) (G : Nat → Option (Nat × Nat)) (got : Array Bool) (a : Act), HI md ops hd got → (∀ j, j ∈ qs → got.getD j true = true ∨ depB md ops j i = true) →
   (∀ j oj, ops[j]? = some oj → j ≠ i → got.getD j true = false → (∀ e ∈ oj.after, Region.binds md e = true → e.on ≠ i) → oi.apart ops oj = true) →
   i ∈ Region.ready md ops got → MkD P w al val (dp i) G i oi di a →
   (∀ b e, GM P md ops hd w al val k qs ms dp g Q L f (MK.upd G i (b, e)) (got.setIfInBounds i true) (a.put (some di) (val i b e))) → GM P md ops hd w al val k qs ms dp g Q L (f + 1) G got a
 | f, G, got, a, inv, hall0, hfree, hr, ha, H => by
  have hun := (mem_ready.1 hr).1
  refine ⟨fun h => (by rw [h] at hr; cases hr), fun j hj => ?_⟩
  have hjn : hd j = true := (ready_leS hc inv hj).resolve_right fun e => hips (ready_lastS (i := i) hs inv (by rw [← e]; exact hj) hin (Array.getElem?_eq_some_iff.1 hi).1 hun)
  obtain ⟨hjun, oj, hoj, hall⟩ := mem_ready.1 hj
  have noq : j ∉ qs := fun hq => by
   rcases hall0 j hq with h | h
   ·rw [h] at hjun; cases hjun
   ·have := dep_done inv hj h
    rw [getD_both hun] at this; cases this
  by_cases hji : j = i
  ·subst hji; exact .inr (.inl ⟨him, hin, oi, di, hi, ha, H⟩)
  ·have hrj := ready_mono hj hji
   have hij' : i ∉ dp j := fun hm => by
    have := dep_done inv hj (hdp j i hjn hm)
    rw [getD_both hun] at this; cases this
   have hji' : j ∉ dp i := fun hm => by
    have := dep_done inv hr (hdp i j hin hm)
    rw [getD_both hjun] at this; cases this
   match f, H with
   | 0, H => have := hdone _ _ _ (H 0 0) j hrj; rw [hjn] at this; cases this
   | f + 1, H =>
    have hnot : ∀ e ∈ oj.after, Region.binds md e = true → e.on ≠ i := fun e he hb heq => by
     have h1 := hall e he hb
     rw [heq, getD_both hun] at h1
     cases h1
    obtain ⟨p1, p2, p3⟩ := Oper.apart_spec (hfree j oj hoj hji hjun hnot)
    have hfree' : ∀ m ok, ops[m]? = some ok → m ≠ i → (got.setIfInBounds j true).getD m true = false → (∀ e ∈ ok.after, Region.binds md e = true → e.on ≠ i) → oi.apart ops ok = true := fun m ok hk hki hun' hno => by
     refine hfree m ok hk hki ?_ hno
     by_cases hjk : j = m
     ·subst hjk; exact hjun
     ·rw [getD_set_ne true hjk] at hun'; exact hun'
    have key : ∀ b e, ∃ d, j ∈ ms ∧ MkD P w al val (dp j) (MK.upd G i (b, e)) j oj d (a.put (some di) (val i b e)) ∧ ∀ b' e', GM P md ops hd w al val k qs ms dp g Q L f (MK.upd (MK.upd G i (b, e)) j (b', e')) ((got.setIfInBounds i true).setIfInBounds j true) ((a.put (some di) (val i b e)).put (some d) (val j b' e')) := fun b e => by
     rcases (H b e).2 j hrj with ⟨hjq, _⟩ | ⟨h1, _, o, d, ho, had, hf⟩ | ⟨h1, _⟩
     ·exact absurd hjq noq
     ·have e : o = oj := Option.some.inj (ho.symm.trans hoj)
      subst e
      exact ⟨d, h1, had, hf⟩
     ·rw [h1, hn] at hjn; cases hjn
    obtain ⟨d, hjm, had, _⟩ := key 0 0
    have had0 : MkD P w al val (dp j) G j oj d a := by
     have := had.less hij'
     rw [← ha.dst] at this
     exact this.unput (fun cs b => hsel j oj cs b hoj) p1
    refine .inr (.inl ⟨hjm, hjn, oj, d, hoj, had0, fun b' e' => ?_⟩)
    have ha' : MkD P w al val (dp i) (MK.upd G j (b', e')) i oi di (a.put (some d) (val j b' e')) := by
     have := (ha.put (u := val j b' e') (fun cs b => hsel i oi cs b hi) p3).more (g := (b', e')) hji'
     rw [had0.dst] at this
     exact this
    refine GM_firstM hi hsel hs hc hn him hin hips hdp hdone f _ _ _ (inv.set hj hjn) (fun m hm => by
     rcases hall0 m hm with h | h
     ·exact .inl (set_listed h)
     ·exact .inr h) hfree' (ready_mono hr (Ne.symm hji)) ha' fun b e => ?_
    obtain ⟨d', _, had', hf⟩ := key b e
    have ed : d' = d := Option.some.inj (had'.dst.symm.trans had0.dst)
    subst ed
    rw [Array.setIfInBounds_comm _ _ hji, MK.upd_comm G hji]
    have hp : ∀ x, some di = some x → some d' ≠ some x := fun x hx => by rw [← had0.dst]; exact p2 x (by rw [ha.dst]; exact hx)
    rw [← Act.put_comm a _ _ hp]
    exact hf b' e'
def ordS (md : Region.Mode) (ops : Array Oper) (ts qs ms : List Nat) : List Nat → Array Bool → Bool
 | [], got => seqS md ops ts got
 | i :: l, got => (Region.ready md ops got).contains i && Region.free md ops got i && (qs.contains i || (ms.contains i && qs.all fun j => got.getD j true || depB md ops j i)) && ordS md ops ts qs ms l (got.setIfInBounds i true)
theorem GM_lex {g : Nat} {Q : Exit → Act → World → Prop} {Lq : (Nat → Option (Nat × Nat)) → Act → Prop} (hL : ∀ G got a u, Cm w al G u → (seqS md ops ts got = true ∧ Lq G a) → wpAny P md ops Q g got a u) (hQ : NoFrame Q) (hpu : ∀ p ∈ ps, ∀ o, ops[p]? = some o → Pure P o)
  (hsel : Region.noSelect ops = true) (hs : waitS md ops hd k ps = true) (hc : chainS md ops hd k = true) (hn : hd k = false) (hts : ∀ t, t ∈ ts → hd t = false) (hdp : ∀ j m, hd j = true → m ∈ dp j → depB md ops j m = true) (hmp : ∀ i, i ∈ ms → i ∉ ps) :
  ∀ (l : List Nat) (G : Nat → Option (Nat × Nat)) (got : Array Bool) (a : Act), (∀ i, i ∈ l → hd i = true) → HI md ops hd got → ordS md ops ts qs ms l got = true → MK.Can P ops w al val qs ms dp Lq l G a →
  GM P md ops hd w al val k qs ms dp g Q (fun G' got' a' => seqS md ops ts got' = true ∧ Lq G' a') l.length G got a
 | [], G, got, a, _, _, hB, h => ⟨hB, h⟩
 | i :: l, G, got, a, hl, inv, hB, h => by
  simp only [ordS, Bool.and_eq_true] at hB
  obtain ⟨⟨⟨hr, hf⟩, hq⟩, hB'⟩ := hB
  have hin := hl i (List.mem_cons_self ..)
  have hr' : i ∈ Region.ready md ops got := by simpa using hr
  rcases h with ⟨hiq, o, v, h0, hy, hK⟩ | ⟨hiq, o, d, h0, ha, hK⟩
  ·refine GM_first hL hQ hpu h0 (Region.noSelect_spec hsel) hs hc hn (by simpa using hiq) hin hdp (fun G' got' a' hL => seqS_ready hts hL.1) l.length G got a inv (Region.free_spec h0 hf) hr' hy ?_
   exact GM_lex hL hQ hpu hsel hs hc hn hts hdp hmp l G _ _ (fun j hj => hl j (List.mem_cons_of_mem _ hj)) (inv.set hr' hin) hB' hK
  ·rw [hiq] at hq
   simp only [Bool.false_or, Bool.and_eq_true, List.all_eq_true, Bool.or_eq_true] at hq
   have him : i ∈ ms := by simpa using hq.1
   refine GM_firstM h0 (Region.noSelect_spec hsel) hs hc hn him hin (hmp i him) hdp (fun G' got' a' hL => seqS_ready hts hL.1) l.length G got a inv hq.2 (Region.free_spec h0 hf) hr' ha fun b e => ?_
   exact GM_lex hL hQ hpu hsel hs hc hn hts hdp hmp l _ _ _ (fun j hj => hl j (List.mem_cons_of_mem _ hj)) (inv.set hr' hin) hB' (hK b e)
def mkS (md : Region.Mode) (ops : Array Oper) (k : Nat) (ts cs qs ms ps : List Nat) (dp : Nat → List Nat) : Bool :=
 Region.noSelect ops && !(cs.contains k) && waitS md ops (fun i => cs.contains i) k ps && chainS md ops (fun i => cs.contains i) k && ts.all (fun t => !(cs.contains t)) && decide (cs.length + ts.length = ops.size) && cs.all (fun j => (dp j).all fun m => depB md ops j m) && ms.all (fun i => !(ps.contains i)) && ordS md ops ts qs ms cs (Array.replicate ops.size false)
end
section
variable {P : Program}
end
end Go.Proofs.YtcfphdcinihdbaaGreat.Fx.MS
/- Package solve: how fast bodies are to part; places in a row. -/
namespace Go.Proofs.YtcfphdcinihdbaaGreat.Fx
open Go.ChangeShapes Go.WideShapes Go.ChangeAt Go.RowKit
set_option linter.unusedVariables false
theorem rate_c (r : Int) (er : Hid (partF 64 5 = r)) (w : World) : Calls Tryz.prog 126 #[] w fun e w' => e = .returned (.int .i64 r) ∧ Made w.heap.size w w' := by
 go_enter Tryz.func126, Tryz.ntmps126
 go_wp2_with fail
 refine (part_is 64 5 r _ (by unfold I64; omega) (by unfold I64; omega) er.out).mono ?_
 rintro e w1 ⟨rfl, n, rfl⟩
 go_wp2_with fail
 go_ret
 exact ⟨rfl, (Made.rfl_ _ _).draws n⟩
theorem out_c (d r : Int) (w : World) (hd : I64 d) (er : outS d = r) : Calls Tryz.prog 93 #[.int .i64 d] w fun e w' => e = .returned (.int .i64 r) ∧ Made w.heap.size w w' := by
 unfold outS at er
 obtain ⟨x, ex⟩ : ∃ x, subF d 67108864 = x := ⟨_, rfl⟩
 have ix : I64 x := by rw [← ex]; exact i64_sub _ _
 rw [ex] at er
 have EX := hid ex
 clear ex
 go_enter Tryz.func93, Tryz.ntmps93
 go_wp2_with fail
 refine (sub_is d 67108864 x _ hd (by unfold I64; omega) EX.out).mono ?_
 rintro e w1 ⟨rfl, rfl⟩
 by_cases hx : x ≤ 0
 ·rw [if_pos hx] at er
  subst er
  have e1 : decide (x ≤ 0) = true := decide_eq_true hx
  go_wp2_with fail
  go_ret
  exact ⟨rfl, Made.rfl_ _ _⟩
 ·rw [if_neg hx] at er
  have e1 : decide (x ≤ 0) = false := decide_eq_false hx
  obtain ⟨p, ep⟩ : ∃ p, partF 64 5 = p := ⟨_, rfl⟩
  have ip : I64 p := by rw [← ep]; exact i64_div _ _
  obtain ⟨q, eq⟩ : ∃ q, mulF p x = q := ⟨_, rfl⟩
  rw [ep, eq] at er
  have EP := hid ep; have EQ := hid eq
  clear ep eq
  go_wp2_with fail
  refine (rate_c p EP _).mono ?_
  rintro e w2 ⟨rfl, k2⟩
  have K := hid k2
  clear k2
  go_wp2_with fail
  refine (mul_is p x q _ ip ix EQ.out).mono ?_
  rintro e w3 ⟨rfl, rfl⟩
  go_wp2_with fail
  go_ret
  exact ⟨rfl, K.out⟩
end Go.Proofs.YtcfphdcinihdbaaGreat.Fx