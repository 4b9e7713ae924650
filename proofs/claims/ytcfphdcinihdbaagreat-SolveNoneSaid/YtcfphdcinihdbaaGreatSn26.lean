/- SoV SoM SoC SoD SoE -/
import Derived.Test.YtcfphdcinihdbaaGreatSn20
import Derived.Test.YtcfphdcinihdbaaGreatSn22
import Derived.Test.YtcfphdcinihdbaaGreatSn25
set_option maxRecDepth 100000
set_option maxHeartbeats 64000000
/- Package solve: the contacts that are kept. -/
namespace Go.Proofs.YtcfphdcinihdbaaGreat.Fx
open Go.ChangeShapes Go.WideShapes Go.ChangeAt Go.RowKit
set_option linter.unusedVariables false
theorem infoK : (Tryz.prog.info? 61).map (fun i => (i.zero, i.size, i.bytes)) = some (some (.agg #[.int .i64 0, .int .i64 0, .int .i64 0, .int .i64 0, .int .i64 0]), 5, 40) := by kernel_rfl
def alK (c0 c1 c2 c3 c4 : Int) (i : Nat) (v : World) (g : Nat) (e : MY.Ex) : Prop := Has v g 61 #[.int .i64 c0, .int .i64 c1, .int .i64 c2, .int .i64 c3, .int .i64 c4] ∧ g < e.hi
theorem alK_lasts (c0 c1 c2 c3 c4 : Int) : MY.Lasts (alK c0 c1 c2 c3 c4) := fun i u v g e h hh k => ⟨h.1.stays k h.1.here, h.2⟩
def valK (i g : Nat) (e : MY.Ex) : Value := .slice (some ⟨g, 0, none⟩) 1 1
theorem keep_snoc {L : List Bd} {R : List Ro} {j : Nat} {r : Ro} (h : R[j]? = some r) : keepS L (R.take (j + 1)) = keepS L (R.take j) ++ (keptC L r).toList := by
 rw [take_snoc h]
 unfold keepS
 rw [List.filterMap_append]
 congr 1
theorem contacts_c {tk nb nj gx gy : Int} {L : List Bd} {R : List Ro} {ao ar oj oc : Option Addr} {n cb nj' cj nc cc m cr : Nat} {w : World}
  (hn : L.length = n) (hl : LsT encB 11 w ao L) (hmx : n ≤ 1073741824) (hr : LsT encR 14 w ar R) (hm : R.length = m) (hmm : m ≤ 1073741824) (hv : ∀ r ∈ R, r.a < n ∧ r.b < n) :
  Calls Tryz.prog 34 #[.agg #[.int .i64 tk, .int .i64 nb, .int .i64 nj, .int .i64 gx, .int .i64 gy, .slice ao n cb, .slice oj nj' cj, .slice oc nc cc], .slice ar m cr] w fun e v => ∃ oq cq K, e = .returned (.slice oq K.length cq) ∧ K = keepS L R ∧ v.ownsRow w.heap.size 61 5 (.slice oq K.length cq) K.length (flatE encC K) ∧ Made w.heap.size w v := by
 obtain ⟨W0, eW⟩ : ∃ W, W = w.alloc (.cells #[.int .i64 tk, .int .i64 nb, .int .i64 nj, .int .i64 gx, .int .i64 gy, .slice ao n cb, .slice oj nj' cj, .slice oc nc cc] 32) := ⟨_, rfl⟩
 have HW0 : Hid (Has W0 w.heap.size 32 #[.int .i64 tk, .int .i64 nb, .int .i64 nj, .int .i64 gx, .int .i64 gy, .slice ao n cb, .slice oj nj' cj, .slice oc nc cc]) := by unfold Hid; rw [eW]; exact has_new _ _ _
 have M0 : Hid (Made w.heap.size w W0) := by unfold Hid; rw [eW]; exact (Made.rfl_ _ _).cells (Nat.le_refl _) _ _
 have HL0 : Hid (LsT encB 11 W0 ao L) := hl.kept M0.out
 have HR0 : Hid (LsT encR 14 W0 ar R) := hr.kept M0.out
 have HN := hid hn; have HRm := hid hm; have HV := hid hv
 obtain ⟨iO, hiO, hz0, hz1, hz2⟩ := info_parts infoK
 have iHi := hid hiO; have iH0 := hid hz0; have iH1 := hid hz1; have iH2 := hid hz2
 obtain ⟨g0, eg0⟩ : ∃ g, w.heap.size = g := ⟨_, rfl⟩
 have lw : w.heap.size ≤ W0.heap.size := M0.out.1.size
 rw [eg0] at HW0
 obtain ⟨B1, eB1⟩ : ∃ B, W0.heap.size = B := ⟨_, rfl⟩
 have EB1 := hid eB1
 have l0 : g0 < B1 := by rw [← eB1]; exact HW0.out.here
 rw [eB1] at lw
 clear hn hl hr hm hv hiO hz0 hz1 hz2 eB1
 go_enter Tryz.func34, Tryz.ntmps34
 go_upto_region 1 with fail
 rw [← eW]
 try rw [eg0]
 clear eW
 go_wp2_with fail
 go_loopg [5, 10] m (fun gg s5 s10 wx => ∃ j : Nat, j + gg = m ∧ s10 = .int .i64 (j : Nat) ∧ (∃ oq q cq, s5 = .slice oq q cq ∧ q ≤ j ∧ Hid (∃ K, K.length = q ∧ K = keepS L (R.take j) ∧ wx.ownsRow B1 61 5 (.slice oq q cq) q (flatE encC K))) ∧ Hid (Made B1 W0 wx))
 case atStart => exact ⟨0, by omega, by first | rfl | trivial, ⟨none, 0, 0, rfl, by omega, ⟨[], rfl, rfl, World.ownsRow_nil _ _ _ _⟩⟩, Made.rfl_ _ _⟩
 case round =>
  obtain ⟨j, hj, rfl, ⟨oq, q, cq, rfl, hq, HO⟩, HM⟩ := hrel
  by_cases hjn : j < m
  ·obtain ⟨r, hrj⟩ : ∃ r, R[j]? = some r := ⟨_, List.getElem?_eq_getElem (by rw [HRm.out]; exact hjn)⟩
   have HMk : Hid (Made W0.heap.size W0 wr) := by unfold Hid; rw [EB1.out]; exact HM.out
   obtain ⟨br, offr, ear, hbr, hrc⟩ := HR0.out (by rw [HRm.out]; omega)
   cases ear
   have z := hrc j r hrj
   obtain ⟨hva, hvb⟩ := HV.out r (List.mem_of_getElem? hrj)
   have HRj := hid hrj
   obtain ⟨x, hx⟩ : ∃ x, L[r.a]? = some x := ⟨_, List.getElem?_eq_getElem (by rw [HN.out]; exact hva)⟩
   obtain ⟨y, hy⟩ : ∃ y, L[r.b]? = some y := ⟨_, List.getElem?_eq_getElem (by rw [HN.out]; exact hvb)⟩
   obtain ⟨gb, ob, eab, hgb, hLB⟩ := HL0.out (by rw [HN.out]; omega)
   cases eab
   have xid := HMk.out.reads (show W0.cell? ⟨gb, ob + r.a * 11, none⟩ = some (.int .i64 x.id) from hLB r.a x hx 0 _ rfl)
   have yid := HMk.out.reads (show W0.cell? ⟨gb, ob + r.b * 11, none⟩ = some (.int .i64 y.id) from hLB r.b y hy 0 _ rfl)
   have HX := hid hx; have HY := hid hy
   obtain ⟨A, B, key, ⟨nx, ny⟩, ⟨rax, ray⟩, ⟨rbx, rby⟩, gn, gt, po, N, T⟩ := r
   simp only at hva hvb xid yid HX HY
   have z0 := HMk.out.reads (show W0.cell? ⟨br, offr + j * 14, none⟩ = some (.int .i64 (A : Nat)) from z 0 _ rfl)
   have z1 := HMk.out.reads (show W0.cell? ⟨br, offr + j * 14 + 1, none⟩ = some (.int .i64 (B : Nat)) from z 1 _ rfl)
   have z2 := HMk.out.reads (show W0.cell? ⟨br, offr + j * 14 + 2, none⟩ = some (.int .i64 key) from z 2 _ rfl)
   have z3 := HMk.out.reads (show W0.cell? ⟨br, offr + j * 14 + 3, none⟩ = some (.int .i64 nx) from z 3 _ rfl)
   have z4 := HMk.out.reads (show W0.cell? ⟨br, offr + j * 14 + 4, none⟩ = some (.int .i64 ny) from z 4 _ rfl)
   have z5 := HMk.out.reads (show W0.cell? ⟨br, offr + j * 14 + 5, none⟩ = some (.int .i64 rax) from z 5 _ rfl)
   have z6 := HMk.out.reads (show W0.cell? ⟨br, offr + j * 14 + 6, none⟩ = some (.int .i64 ray) from z 6 _ rfl)
   have z7 := HMk.out.reads (show W0.cell? ⟨br, offr + j * 14 + 7, none⟩ = some (.int .i64 rbx) from z 7 _ rfl)
   have z8 := HMk.out.reads (show W0.cell? ⟨br, offr + j * 14 + 8, none⟩ = some (.int .i64 rby) from z 8 _ rfl)
   have z9 := HMk.out.reads (show W0.cell? ⟨br, offr + j * 14 + 9, none⟩ = some (.int .i64 gn) from z 9 _ rfl)
   have z10 := HMk.out.reads (show W0.cell? ⟨br, offr + j * 14 + 10, none⟩ = some (.int .i64 gt) from z 10 _ rfl)
   have z11 := HMk.out.reads (show W0.cell? ⟨br, offr + j * 14 + 11, none⟩ = some (.int .i64 po) from z 11 _ rfl)
   have z12 := HMk.out.reads (show W0.cell? ⟨br, offr + j * 14 + 12, none⟩ = some (.int .i64 N) from z 12 _ rfl)
   have z13 := HMk.out.reads (show W0.cell? ⟨br, offr + j * 14 + 13, none⟩ = some (.int .i64 T) from z 13 _ rfl)
   obtain ⟨og, eog⟩ : ∃ o, offr + j * 14 = o := ⟨_, rfl⟩
   rw [eog] at z0 z1 z2 z3 z4 z5 z6 z7 z8 z9 z10 z11 z12 z13
   obtain ⟨oa, eoa⟩ : ∃ o, ob + A * 11 = o := ⟨_, rfl⟩
   obtain ⟨ok, eok⟩ : ∃ o, ob + B * 11 = o := ⟨_, rfl⟩
   rw [eoa] at xid
   rw [eok] at yid
   clear z hrj hrc hx hy hLB hbr hgb
   go_upto_region 5 with fail
   obtain ⟨W4, e4⟩ : ∃ W, W = wr.alloc (.cells #[.int .i64 (A : Nat), .int .i64 (B : Nat), .int .i64 key, .int .i64 nx, .int .i64 ny, .int .i64 rax, .int .i64 ray, .int .i64 rbx, .int .i64 rby, .int .i64 gn, .int .i64 gt, .int .i64 po, .int .i64 N, .int .i64 T] 56) := ⟨_, rfl⟩
   obtain ⟨g7, eg7⟩ : ∃ g, wr.heap.size = g := ⟨_, rfl⟩
   have k4 : Made wr.heap.size wr W4 := by rw [e4]; exact (Made.rfl_ _ _).cells (Nat.le_refl _) _ _
   have HV4 : Hid (Has W4 g7 56 #[.int .i64 (A : Nat), .int .i64 (B : Nat), .int .i64 key, .int .i64 nx, .int .i64 ny, .int .i64 rax, .int .i64 ray, .int .i64 rbx, .int .i64 rby, .int .i64 gn, .int .i64 gt, .int .i64 po, .int .i64 N, .int .i64 T]) := by unfold Hid; rw [e4, ← eg7]; exact has_new _ _ _
   have M4 : Hid (Made B1 W0 W4) := HM.out.then_ (k4.low (by have := HM.out.1.size; have := EB1.out; omega))
   have HO4 : Hid (∃ K, K.length = q ∧ K = keepS L (R.take j) ∧ W4.ownsRow B1 61 5 (.slice oq q cq) q (flatE encC K)) := by
    obtain ⟨K, h0, h1, h2⟩ := HO.out
    exact ⟨K, h0, h1, own_stays h2 k4⟩
   have xid := k4.reads xid
   have yid := k4.reads yid
   try rw [← e4]
   try rw [eg7]
   clear e4 eg7 k4 z0 z1 z2 z3 z4 z5 z6 z7 z8 z9 z10 z11 z12 z13 HO HM HMk
   have hva' : (A : Int) < (n : Int) := by omega
   have hvb' : (B : Int) < (n : Int) := by omega
   have r0 : W4.cell? ⟨g7, 0, none⟩ = some (.int .i64 (A : Nat)) := HV4.out.at_ 0
   have r1 : W4.cell? ⟨g7, 1, none⟩ = some (.int .i64 (B : Nat)) := HV4.out.at_ 1
   have r12 : W4.cell? ⟨g7, 12, none⟩ = some (.int .i64 N) := HV4.out.at_ 12
   have r13 : W4.cell? ⟨g7, 13, none⟩ = some (.int .i64 T) := HV4.out.at_ 13
   have c5 : W4.cell? ⟨g0, 5, none⟩ = some (.slice (some ⟨gb, ob, none⟩) n cb) := by rw [(HW0.out.stays M4.out l0).at_]; rfl
   have HEX := hid (fun v => sexist_c (some ⟨gb, ob, none⟩) n cb A B v hva hvb)
   by_cases hp : N = 0 ∧ T = 0
   ·obtain ⟨rfl, rfl⟩ := hp
    have HOS : Hid (∃ K, K.length = q ∧ K = keepS L (R.take (j + 1)) ∧ W4.ownsRow B1 61 5 (.slice oq q cq) q (flatE encC K)) := by
     obtain ⟨K, h0, h1, h2⟩ := HO4.out
     refine ⟨K, h0, ?_, h2⟩
     rw [keep_snoc HRj.out, ← h1]
     simp [keptC, pushes]
    clear HO4
    go_wp2_with fail
    go_roundg (m - (j + 1))
    case measure => omega
    case rel => exact ⟨j + 1, by omega, by go_num, ⟨oq, q, cq, rfl, by omega, HOS.out⟩, M4.out⟩
   ·have HKP : Hid (keepS L (R.take (j + 1)) = keepS L (R.take j) ++ [⟨x.id, y.id, key, N, T⟩]) := by
     unfold Hid
     rw [keep_snoc HRj.out]
     have e : keptC L ⟨A, B, key, (nx, ny), (rax, ray), (rbx, rby), gn, gt, po, N, T⟩ = some ⟨x.id, y.id, key, N, T⟩ := by
      unfold keptC pushes
      have : (decide (N = 0) && decide (T = 0)) = false := by
       by_cases h1 : N = 0
       ·by_cases h2 : T = 0
        ·exact absurd ⟨h1, h2⟩ hp
        ·simp [h2]
       ·simp [h1]
      simp only [this, Bool.not_false, if_true]
      rw [HX.out, HY.out]
     rw [e]; rfl
    have HP := hid hp
    clear hp
    by_cases hN : N = 0
    ·subst hN
     have hT : ¬ T = 0 := fun e => HP.out ⟨rfl, e⟩
     have hTb : (T == 0) = false := by simp [hT]
     have hTc : (T != 0) = true := by simp [hT]
     go_upto_region 6 with (first | (refine HEX.out _ |>.mono ?_; rintro e v ⟨rfl, rfl⟩))
     refine MY.reg_mk (alK x.id y.id key 0 T) 23 [0, 1, 2, 3, 4, 5, 6, 7, 8, 9, 10, 11, 12, 13, 14, 15, 16, 17, 18, 19, 20, 21, 22] [0, 1, 2, 3, 4, 5, 6, 7, 8, 9, 10, 11, 12, 13, 14, 15, 16, 17, 18, 19, 20, 21] [22] [] (fun _ => []) (val := valK) (by kernel_rfl) (by kernel_rfl) (fun p hp => absurd hp (by simp)) ?_
     refine MY.can_class (rest := [22]) [0, 1, 2, 3, 4, 5, 6, 7, 8, 9, 10, 11, 12, 13, 14, 15, 16, 17, 18, 19, 20, 21] [] 57 (alK_lasts _ _ _ _ _) (MY.any_class _) (by kernel_rfl) rfl (by kernel_rfl) (by kernel_rfl) ?_
     apply Exists.intro
     refine ⟨?r1a, ?r2a⟩
     case r1a =>
      intro Ty hTT f hf _
      have r0 := Class.reads hf r0
      have r1 := Class.reads hf r1
      have r2 := Class.reads hf (p := ⟨g7, 2, none⟩) (u := .int .i64 key) (by rw [HV4.out.at_]; rfl)
      have r12 := Class.reads hf r12
      have r13 := Class.reads hf r13
      have c5 := Class.reads hf c5
      have xid := Class.reads hf xid
      have yid := Class.reads hf yid
      change wpQuiet _ _ _ _ [_, _, _, _, _, _, _, _, _, _, _, _, _, _, _, _, _, _, _, _, _, _] _
      repeat (go_big_quiet_step (fail))
      exact wpQuiet_nil rfl
     refine MY.can_mk 22 53 _ rfl rfl rfl (by rfl) ?m2a fun q2 e2 => ?n2a
     case m2a =>
      intro G' u _ hu
      rw [show (execOp _ _).run Tryz.prog u = .ok (.value (.slice (some ⟨u.heap.size, 0, none⟩) 1 1)) (u.alloc (.cells #[.int .i64 x.id, .int .i64 y.id, .int .i64 key, .int .i64 0, .int .i64 T] 61)) from by go_simp]
      exact ⟨u.heap.size, ⟨u.heap.size + 1, .bool false⟩, rfl, hu.next (alK_lasts _ _ _ _ _) ((Made.rfl_ _ _).cells (Nat.le_refl _) _ _) (Nat.le_refl _) (by simp) (by simp) ⟨has_new _ _ _, by simp⟩⟩
     rw [show valK 22 q2 e2 = .slice (some ⟨q2, 0, none⟩) 1 1 from rfl]
     simp only [Act.put, List.setIfInBounds_toArray, List.set_cons_succ, List.set_cons_zero]
     intro w5 hu
     have hb5 := hu.1
     obtain ⟨hq1, hq2, hq3, hq4, _⟩ := hu.2.1 22 (q2, e2) (by unfold MY.upd; simp)
     have HNb : Hid (Has w5 q2 61 #[.int .i64 x.id, .int .i64 y.id, .int .i64 key, .int .i64 0, .int .i64 T]) := hq4
     have M5 : Hid (Made B1 W0 w5) := M4.out.then_ (hb5.low (by have := M4.out.1.size; have := EB1.out; omega))
     obtain ⟨K, hk0, hk1, hk2⟩ := HO4.out
     have HO5 := hid (own_stays hk2 hb5)
     have HK0 := hid hk0; have HK1 := hid hk1
     clear hu hb5 hq1 hq2 hq3 hq4 hk0 hk1 hk2 HO4 HV4 M4
     have hs5 : B1 ≤ w5.heap.size := by have := M5.out.1.size; have := EB1.out; omega
     simp only [List.drop_succ_cons, List.drop_zero]
     refine (wpList_append_at rfl (.tmp 31) (.tmp 53) 30 rfl B1 61 iO (.agg #[.int .i64 0, .int .i64 0, .int .i64 0, .int .i64 0, .int .i64 0]) 5 40 Tryz.underlying30 iHi.out iH0.out iH1.out iH2.out rfl (by decide) (.slice oq q cq) q (flatE encC K) rfl HO5.out ⟨q2, 0, none⟩ 1 1 [.int .i64 x.id, .int .i64 y.id, .int .i64 key, .int .i64 0, .int .i64 T] rfl rfl (has_news HNb.out) (by intro v hv; simp at hv; rcases hv with rfl | rfl | rfl | rfl | rfl <;> rfl) (by unfold maxLen; omega) (by omega) hs5 (by omega) ?_)
     intro v6 w6 hown hbt hnx
     have M6 : Hid (Made B1 W0 w6) := But.made_ M5.out hbt hs5 (fun b hb => by have := (HO5.out.lt b hb.symm).1; omega)
     rw [show ([.int .i64 x.id, .int .i64 y.id, .int .i64 key, .int .i64 0, .int .i64 T] : List Value) = encC ⟨x.id, y.id, key, 0, T⟩ from rfl, flatE_snoc] at hown
     obtain ⟨om6, cm6, rfl⟩ : ∃ o c, v6 = .slice o (q + 1) c := by
      rcases hown.2 with ⟨_, h⟩ | ⟨g, cap, cur, e, _⟩
      ·omega
      ·exact ⟨_, _, e⟩
     have HO6 : Hid (∃ K, K.length = q + 1 ∧ K = keepS L (R.take (j + 1)) ∧ w6.ownsRow B1 61 5 (.slice om6 (q + 1) cm6) (q + 1) (flatE encC K)) := ⟨_, by rw [List.length_append, HK0.out]; rfl, by rw [HKP.out, ← HK1.out], hown⟩
     clear hown hbt hnx HO5 HNb M5
     go_wp2_with fail
     refine NoPanic.normal ?_
     go_wp2_with fail
     go_roundg (m - (j + 1))
     case measure => omega
     case rel => exact ⟨j + 1, by omega, by go_num, ⟨om6, q + 1, cm6, rfl, by omega, HO6.out⟩, M6.out⟩
    ·have hNb : (N == 0) = false := by simp [hN]
     have hNc : (N != 0) = true := by simp [hN]
     go_upto_region 6 with (first | (refine HEX.out _ |>.mono ?_; rintro e v ⟨rfl, rfl⟩))
     refine MY.reg_mk (alK x.id y.id key N T) 23 [0, 1, 2, 3, 4, 5, 6, 7, 8, 9, 10, 11, 12, 13, 14, 15, 16, 17, 18, 19, 20, 21, 22] [0, 1, 2, 3, 4, 5, 6, 7, 8, 9, 10, 11, 12, 13, 14, 15, 16, 17, 18, 19, 20, 21] [22] [] (fun _ => []) (val := valK) (by kernel_rfl) (by kernel_rfl) (fun p hp => absurd hp (by simp)) ?_
     refine MY.can_class (rest := [22]) [0, 1, 2, 3, 4, 5, 6, 7, 8, 9, 10, 11, 12, 13, 14, 15, 16, 17, 18, 19, 20, 21] [] 57 (alK_lasts _ _ _ _ _) (MY.any_class _) (by kernel_rfl) rfl (by kernel_rfl) (by kernel_rfl) ?_
     apply Exists.intro
     refine ⟨?r1b, ?r2b⟩
     case r1b =>
      intro Ty hTT f hf _
      have r0 := Class.reads hf r0
      have r1 := Class.reads hf r1
      have r2 := Class.reads hf (p := ⟨g7, 2, none⟩) (u := .int .i64 key) (by rw [HV4.out.at_]; rfl)
      have r12 := Class.reads hf r12
      have r13 := Class.reads hf r13
      have c5 := Class.reads hf c5
      have xid := Class.reads hf xid
      have yid := Class.reads hf yid
      change wpQuiet _ _ _ _ [_, _, _, _, _, _, _, _, _, _, _, _, _, _, _, _, _, _, _, _, _, _] _
      repeat (go_big_quiet_step (fail))
      exact wpQuiet_nil rfl
     refine MY.can_mk 22 53 _ rfl rfl rfl (by rfl) ?m2b fun q2 e2 => ?n2b
     case m2b =>
      intro G' u _ hu
      rw [show (execOp _ _).run Tryz.prog u = .ok (.value (.slice (some ⟨u.heap.size, 0, none⟩) 1 1)) (u.alloc (.cells #[.int .i64 x.id, .int .i64 y.id, .int .i64 key, .int .i64 N, .int .i64 T] 61)) from by go_simp]
      exact ⟨u.heap.size, ⟨u.heap.size + 1, .bool false⟩, rfl, hu.next (alK_lasts _ _ _ _ _) ((Made.rfl_ _ _).cells (Nat.le_refl _) _ _) (Nat.le_refl _) (by simp) (by simp) ⟨has_new _ _ _, by simp⟩⟩
     rw [show valK 22 q2 e2 = .slice (some ⟨q2, 0, none⟩) 1 1 from rfl]
     simp only [Act.put, List.setIfInBounds_toArray, List.set_cons_succ, List.set_cons_zero]
     intro w5 hu
     have hb5 := hu.1
     obtain ⟨hq1, hq2, hq3, hq4, _⟩ := hu.2.1 22 (q2, e2) (by unfold MY.upd; simp)
     have HNb : Hid (Has w5 q2 61 #[.int .i64 x.id, .int .i64 y.id, .int .i64 key, .int .i64 N, .int .i64 T]) := hq4
     have M5 : Hid (Made B1 W0 w5) := M4.out.then_ (hb5.low (by have := M4.out.1.size; have := EB1.out; omega))
     obtain ⟨K, hk0, hk1, hk2⟩ := HO4.out
     have HO5 := hid (own_stays hk2 hb5)
     have HK0 := hid hk0; have HK1 := hid hk1
     clear hu hb5 hq1 hq2 hq3 hq4 hk0 hk1 hk2 HO4 HV4 M4
     have hs5 : B1 ≤ w5.heap.size := by have := M5.out.1.size; have := EB1.out; omega
     simp only [List.drop_succ_cons, List.drop_zero]
     refine (wpList_append_at rfl (.tmp 31) (.tmp 53) 30 rfl B1 61 iO (.agg #[.int .i64 0, .int .i64 0, .int .i64 0, .int .i64 0, .int .i64 0]) 5 40 Tryz.underlying30 iHi.out iH0.out iH1.out iH2.out rfl (by decide) (.slice oq q cq) q (flatE encC K) rfl HO5.out ⟨q2, 0, none⟩ 1 1 [.int .i64 x.id, .int .i64 y.id, .int .i64 key, .int .i64 N, .int .i64 T] rfl rfl (has_news HNb.out) (by intro v hv; simp at hv; rcases hv with rfl | rfl | rfl | rfl | rfl <;> rfl) (by unfold maxLen; omega) (by omega) hs5 (by omega) ?_)
     intro v6 w6 hown hbt hnx
     have M6 : Hid (Made B1 W0 w6) := But.made_ M5.out hbt hs5 (fun b hb => by have := (HO5.out.lt b hb.symm).1; omega)
     rw [show ([.int .i64 x.id, .int .i64 y.id, .int .i64 key, .int .i64 N, .int .i64 T] : List Value) = encC ⟨x.id, y.id, key, N, T⟩ from rfl, flatE_snoc] at hown
     obtain ⟨om6, cm6, rfl⟩ : ∃ o c, v6 = .slice o (q + 1) c := by
      rcases hown.2 with ⟨_, h⟩ | ⟨g, cap, cur, e, _⟩
      ·omega
      ·exact ⟨_, _, e⟩
     have HO6 : Hid (∃ K, K.length = q + 1 ∧ K = keepS L (R.take (j + 1)) ∧ w6.ownsRow B1 61 5 (.slice om6 (q + 1) cm6) (q + 1) (flatE encC K)) := ⟨_, by rw [List.length_append, HK0.out]; rfl, by rw [HKP.out, ← HK1.out], hown⟩
     clear hown hbt hnx HO5 HNb M5
     go_wp2_with fail
     refine NoPanic.normal ?_
     go_wp2_with fail
     go_roundg (m - (j + 1))
     case measure => omega
     case rel => exact ⟨j + 1, by omega, by go_num, ⟨om6, q + 1, cm6, rfl, by omega, HO6.out⟩, M6.out⟩
  ·have e : j = m := by omega
   subst e
   go_wp2_with fail
   go_ret
   obtain ⟨K, h0, h1, h2⟩ := HO.out
   rw [List.take_of_length_le (by rw [HRm.out]; exact Nat.le_refl _)] at h1
   subst h0
   exact ⟨oq, cq, K, rfl, h1, own_low h2 lw, M0.out.then_ (HM.out.low lw)⟩
end Go.Proofs.YtcfphdcinihdbaaGreat.Fx
/- Package solve: ties as holds. -/
namespace Go.Proofs.YtcfphdcinihdbaaGreat.Fx
open Go.ChangeShapes Go.WideShapes Go.ChangeAt Go.RowKit
set_option linter.unusedVariables false
def encTi (t : Ti) : List Value := [.int .i64 (t.a : Nat), .int .i64 (t.b : Nat), .int .i64 t.n.1, .int .i64 t.n.2, .int .i64 t.ra.1, .int .i64 t.ra.2, .int .i64 t.rb.1, .int .i64 t.rb.2, .int .i64 t.g, .int .i64 t.off]
def encHo (gb : Nat) (h : Ti × Lk) : List Value := encTi h.1 ++ encL gb h.2
theorem encHo_len (gb : Nat) (h : Ti × Lk) : (encHo gb h).length = 24 := rfl
def hoOf (L : List Bd) (t : Ti) : Ti × Lk := (t, lkOf L t.a t.b t.ra t.rb)
def holdL (L : List Bd) (T : List Ti) : List (Ti × Lk) := T.map (hoOf L)
theorem hold_at {L : List Bd} {T : List Ti} {i : Nat} {t : Ti} (h : T[i]? = some t) : (holdL L T)[i]? = some (hoOf L t) := by
 unfold holdL; rw [List.getElem?_map, h]; rfl
theorem hold_len (L : List Bd) (T : List Ti) : (holdL L T).length = T.length := by unfold holdL; simp
theorem infoHo : (Tryz.prog.info? 148).map (fun i => (i.zero, i.size, i.bytes)) = some (some (.agg #[.int .i64 0, .int .i64 0, .int .i64 0, .int .i64 0, .int .i64 0, .int .i64 0, .int .i64 0, .int .i64 0, .int .i64 0, .int .i64 0, .pointer none, .pointer none, .int .i64 0, .int .i64 0, .int .i64 0, .int .i64 0, .int .i64 0, .int .i64 0, .int .i64 0, .int .i64 0, .int .i64 0, .int .i64 0, .int .i64 0, .int .i64 0]), 24, 192) := by kernel_rfl
theorem encHo_one (gb : Nat) (h : Ti × Lk) : ∀ v ∈ encHo gb h, v.oneCell' = true := by
 intro v hv; simp [encHo, encTi, encL] at hv; rcases hv with rfl | rfl | rfl | rfl | rfl | rfl | rfl | rfl | rfl | rfl | rfl | rfl | rfl | rfl | rfl | rfl | rfl | rfl | rfl | rfl | rfl | rfl | rfl | rfl <;> rfl
theorem LsB.elt {α : Type} {enc : α → List Value} {k : Nat} {w : World} {b off : Nat} {l : List α} (h : LsB enc k w b off l) {i : Nat} {x : α} (hx : l[i]? = some x) : ∀ j u, (enc x)[j]? = some u → w.cell? ⟨b, off + i * k + j, none⟩ = some u := fun j u hu => h i x hx j u hu
theorem holds_c {gb gm gt ot n m cb cm ct : Nat} {L : List Bd} {R : List Ti} {w : World} (hM : LsB encM 4 w gm 0 L) (hgm : gm < w.heap.size) (hn : L.length = n) (hR : LsB encTi 10 w gt ot R) (hgt : gt < w.heap.size) (hRm : R.length = m) (hv : ∀ r ∈ R, r.a < n ∧ r.b < n) (hmx : m ≤ 1073741824) (hcr : m ≤ ct) (hcm : ct ≤ maxLen) :
  Calls Tryz.prog 74 #[.agg #[.slice (some ⟨gb, 0, none⟩) n cb, .slice (some ⟨gm, 0, none⟩) n cm], .slice (some ⟨gt, ot, none⟩) m ct] w fun e w' => ∃ op cp, e = .returned (.slice op m cp) ∧ Made w.heap.size w w' ∧ w'.ownsRow w.heap.size 148 24 (.slice op m cp) m (flatE (encHo gb) (holdL L R)) := by
 have HN := hid hn
 have HRm := hid hRm
 have HM := hid (fun v (k : Made w.heap.size w v) => hM.below k.1 hgm)
 have HR := hid (fun v (k : Made w.heap.size w v) => hR.below k.1 hgt)
 have HV := hid hv
 obtain ⟨iO, hiO, hz0, hz1, hz2⟩ := info_parts infoHo
 have iHi := hid hiO; have iH0 := hid hz0; have iH1 := hid hz1; have iH2 := hid hz2
 have HW0 : Hid (Has (w.alloc (.cells #[.slice (some ⟨gb, 0, none⟩) n cb, .slice (some ⟨gm, 0, none⟩) n cm] 97)) w.heap.size 97 #[.slice (some ⟨gb, 0, none⟩) n cb, .slice (some ⟨gm, 0, none⟩) n cm]) := has_new _ _ _
 have HB0 : Hid (Made w.heap.size w (w.alloc (.cells #[.slice (some ⟨gb, 0, none⟩) n cb, .slice (some ⟨gm, 0, none⟩) n cm] 97))) := (Made.rfl_ _ _).cells (Nat.le_refl _) _ _
 obtain ⟨g0, eg0⟩ : ∃ g, w.heap.size = g := ⟨_, rfl⟩
 rw [eg0] at HW0
 clear hM hn hR hv hiO hz0 hz1 hz2 hRm
 go_enter Tryz.func74, Tryz.ntmps74
 go_wp2_with fail
 go_loopg [5, 12] m (fun gg s5 s12 wx => ∃ k : Nat, k + gg = m ∧ s12 = .int .i64 (k : Nat) ∧ (∃ op cp, s5 = .slice op k cp ∧ Hid (wx.ownsRow g0 148 24 (.slice op k cp) k (flatE (encHo gb) ((holdL L R).take k)))) ∧ Hid (Has wx g0 97 #[.slice (some ⟨gb, 0, none⟩) n cb, .slice (some ⟨gm, 0, none⟩) n cm]) ∧ Hid (Made w.heap.size w wx))
 case atStart => exact ⟨0, by omega, by first | rfl | trivial, ⟨none, 0, rfl, World.ownsRow_nil _ _ _ _⟩, HW0.out, HB0.out⟩
 case round =>
  obtain ⟨k, hk, rfl, ⟨op, cp, rfl, HO⟩, HC, HB⟩ := hrel
  clear HW0 HB0
  by_cases hkm : k < m
  ·obtain ⟨r, hr⟩ : ∃ r, R[k]? = some r := ⟨_, List.getElem?_eq_getElem (by rw [HRm.out]; exact hkm)⟩
   obtain ⟨hva, hvb⟩ := HV.out r (List.mem_of_getElem? hr)
   have HPx := hid (hold_at (L := L) hr)
   have hRx := (HR.out wr HB.out).elt hr
   obtain ⟨x, hx⟩ : ∃ x, L[r.a]? = some x := ⟨_, List.getElem?_eq_getElem (by rw [HN.out]; exact hva)⟩
   obtain ⟨y, hy⟩ : ∃ y, L[r.b]? = some y := ⟨_, List.getElem?_eq_getElem (by rw [HN.out]; exact hvb)⟩
   obtain ⟨oa, eoa⟩ : ∃ o, r.a * 11 = o := ⟨_, rfl⟩
   obtain ⟨ob, eob⟩ : ∃ o, r.b * 11 = o := ⟨_, rfl⟩
   obtain ⟨og, eog⟩ : ∃ o, ot + k * 10 = o := ⟨_, rfl⟩
   have q0 := hRx 0 _ rfl
   have q1 := hRx 1 _ rfl
   have q2 := hRx 2 _ rfl
   have q3 := hRx 3 _ rfl
   have q4 := hRx 4 _ rfl
   have q5 := hRx 5 _ rfl
   have q6 := hRx 6 _ rfl
   have q7 := hRx 7 _ rfl
   have q8 := hRx 8 _ rfl
   have q9 := hRx 9 _ rfl
   rw [eog] at q0 q1 q2 q3 q4 q5 q6 q7 q8 q9
   rw [Nat.add_zero] at q0
   obtain ⟨i, ei⟩ : ∃ i, r.a = i := ⟨_, rfl⟩
   obtain ⟨j, ej⟩ : ∃ j, r.b = j := ⟨_, rfl⟩
   obtain ⟨nx, e2⟩ : ∃ z, r.n.1 = z := ⟨_, rfl⟩
   obtain ⟨ny, e3⟩ : ∃ z, r.n.2 = z := ⟨_, rfl⟩
   obtain ⟨rax, e5⟩ : ∃ z, r.ra.1 = z := ⟨_, rfl⟩
   obtain ⟨ray, e6⟩ : ∃ z, r.ra.2 = z := ⟨_, rfl⟩
   obtain ⟨rbx, e7⟩ : ∃ z, r.rb.1 = z := ⟨_, rfl⟩
   obtain ⟨rby, e8⟩ : ∃ z, r.rb.2 = z := ⟨_, rfl⟩
   obtain ⟨tg, e9⟩ : ∃ z, r.g = z := ⟨_, rfl⟩
   obtain ⟨tf, e10⟩ : ∃ z, r.off = z := ⟨_, rfl⟩
   rw [ei] at q0 hva hx eoa
   rw [ej] at q1 hvb hy eob
   rw [e2] at q2; rw [e3] at q3; rw [e5] at q4; rw [e6] at q5; rw [e7] at q6; rw [e8] at q7; rw [e9] at q8; rw [e10] at q9
   have HLK : Hid (encHo gb (hoOf L r) = [.int .i64 (i : Nat), .int .i64 (j : Nat), .int .i64 nx, .int .i64 ny, .int .i64 rax, .int .i64 ray, .int .i64 rbx, .int .i64 rby, .int .i64 tg, .int .i64 tf, .pointer (some ⟨gb, oa, none⟩), .pointer (some ⟨gb, ob, none⟩), .int .i64 (mA x), .int .i64 (mI x), .int .i64 (moveB x), .int .i64 (spinB x), .int .i64 (mA y), .int .i64 (mI y), .int .i64 (moveB y), .int .i64 (spinB y), .int .i64 rax, .int .i64 ray, .int .i64 rbx, .int .i64 rby]) := by
    unfold Hid encHo hoOf lkOf encL encTi
    simp only
    rw [ei, ej, bdAt_is hx, bdAt_is hy, e2, e3, e5, e6, e7, e8, e9, e10, eoa, eob]
    rfl
   have HLC := hid (fun v (k2 : Made wr.heap.size wr v) => link_c (gb := gb) (ob := 0) (cb := cb) (cm := cm) (oa := oa) (ok := ob) rax ray rbx rby v ((HM.out v (HB.out.then_ (k2.low HB.out.1.size)))) hx hy hva hvb (by omega) (by omega))
   clear hr hRx hx hy ei ej e2 e3 e5 e6 e7 e8 e9 e10 eoa eob
   obtain ⟨A0, a0⟩ : ∃ z, mA x = z := ⟨_, rfl⟩
   obtain ⟨A1, a1⟩ : ∃ z, mI x = z := ⟨_, rfl⟩
   obtain ⟨A2, a2⟩ : ∃ z, moveB x = z := ⟨_, rfl⟩
   obtain ⟨A3, a3⟩ : ∃ z, spinB x = z := ⟨_, rfl⟩
   obtain ⟨B0, b0⟩ : ∃ z, mA y = z := ⟨_, rfl⟩
   obtain ⟨B1, b1⟩ : ∃ z, mI y = z := ⟨_, rfl⟩
   obtain ⟨B2, b2⟩ : ∃ z, moveB y = z := ⟨_, rfl⟩
   obtain ⟨B3, b3⟩ : ∃ z, spinB y = z := ⟨_, rfl⟩
   rw [a0, a1, a2, a3, b0, b1, b2, b3] at HLC HLK
   clear a0 a1 a2 a3 b0 b1 b2 b3
   go_upto_region 5 with fail
   obtain ⟨W4, e4⟩ : ∃ V, V = wr.alloc (.cells #[.int .i64 (i : Nat), .int .i64 (j : Nat), .int .i64 nx, .int .i64 ny, .int .i64 rax, .int .i64 ray, .int .i64 rbx, .int .i64 rby, .int .i64 tg, .int .i64 tf] 69) := ⟨_, rfl⟩
   obtain ⟨g7, eg7⟩ : ∃ g, wr.heap.size = g := ⟨_, rfl⟩
   have HX4 : Hid (Has W4 g7 69 #[.int .i64 (i : Nat), .int .i64 (j : Nat), .int .i64 nx, .int .i64 ny, .int .i64 rax, .int .i64 ray, .int .i64 rbx, .int .i64 rby, .int .i64 tg, .int .i64 tf]) := by unfold Hid; rw [e4, ← eg7]; exact has_new _ _ _
   have k4 : Made wr.heap.size wr W4 := by rw [e4]; exact (Made.rfl_ _ _).cells (Nat.le_refl _) _ _
   have HO4 := hid (own_stays HO.out k4)
   have HC4 := hid (HC.out.stays k4 HC.out.here)
   have HB4 : Hid (Made w.heap.size w W4) := HB.out.then_ (k4.low HB.out.1.size)
   have HLC4 := hid (HLC.out W4 k4)
   have lg70 : g0 < g7 := by have := HC.out.here; omega
   try rw [← e4]
   try rw [eg7]
   have c0 : W4.cell? ⟨g0, 0, none⟩ = some (.slice (some ⟨gb, 0, none⟩) n cb) := by rw [HC4.out.at_]; rfl
   have c1 : W4.cell? ⟨g0, 1, none⟩ = some (.slice (some ⟨gm, 0, none⟩) n cm) := by rw [HC4.out.at_]; rfl
   have t0 : W4.cell? ⟨g7, 0, none⟩ = some (.int .i64 (i : Nat)) := by rw [HX4.out.at_]; rfl
   have t1 : W4.cell? ⟨g7, 1, none⟩ = some (.int .i64 (j : Nat)) := by rw [HX4.out.at_]; rfl
   have t4 : W4.cell? ⟨g7, 4, none⟩ = some (.int .i64 rax) := by rw [HX4.out.at_]; rfl
   have t5 : W4.cell? ⟨g7, 5, none⟩ = some (.int .i64 ray) := by rw [HX4.out.at_]; rfl
   have t6 : W4.cell? ⟨g7, 6, none⟩ = some (.int .i64 rbx) := by rw [HX4.out.at_]; rfl
   have t7 : W4.cell? ⟨g7, 7, none⟩ = some (.int .i64 rby) := by rw [HX4.out.at_]; rfl
   clear e4 k4 HO HC HB HLC q0 q1 q2 q3 q4 q5 q6 q7 q8 q9
   go_wp2_with fail
   refine HLC4.out.mono ?_
   rintro e v ⟨rfl, k8⟩
   have HX8 := hid (HX4.out.stays k8 HX4.out.here)
   have HO8 := hid (own_stays HO4.out k8)
   have HC8 := hid (HC4.out.stays k8 HC4.out.here)
   have HB8 : Hid (Made w.heap.size w v) := HB4.out.then_ (k8.low HB4.out.1.size)
   have lg7v : g7 < v.heap.size := HX8.out.here
   clear k8 c0 c1 t0 t1 t4 t5 t6 t7 HX4 HO4 HC4 HB4 HLC4
   have hh8 : Has (v.alloc (.cells #[.pointer none, .pointer none, .int .i64 0, .int .i64 0, .int .i64 0, .int .i64 0, .int .i64 0, .int .i64 0, .int .i64 0, .int .i64 0, .int .i64 0, .int .i64 0, .int .i64 0, .int .i64 0] 144)) v.heap.size 144 #[.pointer none, .pointer none, .int .i64 0, .int .i64 0, .int .i64 0, .int .i64 0, .int .i64 0, .int .i64 0, .int .i64 0, .int .i64 0, .int .i64 0, .int .i64 0, .int .i64 0, .int .i64 0] := has_new _ _ _
   have hsz : (Tryz.prog.info? 144).map (·.size) = some 14 := by kernel_rfl
   have hszt : (Tryz.prog.info? 69).map (·.size) = some 10 := by kernel_rfl
   go_upto_region 6 with (refine wpList_store_row rfl 144 (.tmp 8) (.tmp 27) rfl v.heap.size #[.pointer (some ⟨gb, oa, none⟩), .pointer (some ⟨gb, ob, none⟩), .int .i64 A0, .int .i64 A1, .int .i64 A2, .int .i64 A3, .int .i64 B0, .int .i64 B1, .int .i64 B2, .int .i64 B3, .int .i64 rax, .int .i64 ray, .int .i64 rbx, .int .i64 rby] rfl rfl 144 _ hh8 hsz rfl (by simp [Value.oneCell']) ?_)
   obtain ⟨W9, e9⟩ : ∃ V, V = (v.alloc (.cells #[.pointer none, .pointer none, .int .i64 0, .int .i64 0, .int .i64 0, .int .i64 0, .int .i64 0, .int .i64 0, .int .i64 0, .int .i64 0, .int .i64 0, .int .i64 0, .int .i64 0, .int .i64 0] 144)).setRow v.heap.size #[.pointer (some ⟨gb, oa, none⟩), .pointer (some ⟨gb, ob, none⟩), .int .i64 A0, .int .i64 A1, .int .i64 A2, .int .i64 A3, .int .i64 B0, .int .i64 B1, .int .i64 B2, .int .i64 B3, .int .i64 rax, .int .i64 ray, .int .i64 rbx, .int .i64 rby] := ⟨_, rfl⟩
   obtain ⟨g8, eg8⟩ : ∃ g, v.heap.size = g := ⟨_, rfl⟩
   have HX9 : Hid (Has W9 g8 144 #[.pointer (some ⟨gb, oa, none⟩), .pointer (some ⟨gb, ob, none⟩), .int .i64 A0, .int .i64 A1, .int .i64 A2, .int .i64 A3, .int .i64 B0, .int .i64 B1, .int .i64 B2, .int .i64 B3, .int .i64 rax, .int .i64 ray, .int .i64 rbx, .int .i64 rby]) := by unfold Hid; rw [e9, ← eg8]; exact setRow_heap _ _ _ _ _ _ hh8
   have k9 : Made v.heap.size v W9 := by rw [e9]; exact ((Made.rfl_ _ _).cells (Nat.le_refl _) _ _).setRow (Nat.le_refl _) _
   have HT9 := hid (HX8.out.stays k9 HX8.out.here)
   have HO9 := hid (own_stays HO8.out k9)
   have HC9 := hid (HC8.out.stays k9 HC8.out.here)
   have HB9 : Hid (Made w.heap.size w W9) := HB8.out.then_ (k9.low HB8.out.1.size)
   try rw [← e9]
   try rw [eg8]
   clear e9 hh8 k9 HX8 HO8 HC8 HB8 eg8 lg7v
   have HOw : Hid ((W9.alloc (.cells #[.int .i64 (i : Nat), .int .i64 (j : Nat), .int .i64 nx, .int .i64 ny, .int .i64 rax, .int .i64 ray, .int .i64 rbx, .int .i64 rby, .int .i64 tg, .int .i64 tf, .pointer (some ⟨gb, oa, none⟩), .pointer (some ⟨gb, ob, none⟩), .int .i64 A0, .int .i64 A1, .int .i64 A2, .int .i64 A3, .int .i64 B0, .int .i64 B1, .int .i64 B2, .int .i64 B3, .int .i64 rax, .int .i64 ray, .int .i64 rbx, .int .i64 rby] 148)).ownsRow g0 148 24 (.slice op k cp) k (flatE (encHo gb) ((holdL L R).take k))) := HO9.out.alloc _
   have HNb : Hid (Has (W9.alloc (.cells #[.int .i64 (i : Nat), .int .i64 (j : Nat), .int .i64 nx, .int .i64 ny, .int .i64 rax, .int .i64 ray, .int .i64 rbx, .int .i64 rby, .int .i64 tg, .int .i64 tf, .pointer (some ⟨gb, oa, none⟩), .pointer (some ⟨gb, ob, none⟩), .int .i64 A0, .int .i64 A1, .int .i64 A2, .int .i64 A3, .int .i64 B0, .int .i64 B1, .int .i64 B2, .int .i64 B3, .int .i64 rax, .int .i64 ray, .int .i64 rbx, .int .i64 rby] 148)) W9.heap.size 148 #[.int .i64 (i : Nat), .int .i64 (j : Nat), .int .i64 nx, .int .i64 ny, .int .i64 rax, .int .i64 ray, .int .i64 rbx, .int .i64 rby, .int .i64 tg, .int .i64 tf, .pointer (some ⟨gb, oa, none⟩), .pointer (some ⟨gb, ob, none⟩), .int .i64 A0, .int .i64 A1, .int .i64 A2, .int .i64 A3, .int .i64 B0, .int .i64 B1, .int .i64 B2, .int .i64 B3, .int .i64 rax, .int .i64 ray, .int .i64 rbx, .int .i64 rby]) := has_new _ _ _
   have HCw : Hid (Has (W9.alloc (.cells #[.int .i64 (i : Nat), .int .i64 (j : Nat), .int .i64 nx, .int .i64 ny, .int .i64 rax, .int .i64 ray, .int .i64 rbx, .int .i64 rby, .int .i64 tg, .int .i64 tf, .pointer (some ⟨gb, oa, none⟩), .pointer (some ⟨gb, ob, none⟩), .int .i64 A0, .int .i64 A1, .int .i64 A2, .int .i64 A3, .int .i64 B0, .int .i64 B1, .int .i64 B2, .int .i64 B3, .int .i64 rax, .int .i64 ray, .int .i64 rbx, .int .i64 rby] 148)) g0 97 #[.slice (some ⟨gb, 0, none⟩) n cb, .slice (some ⟨gm, 0, none⟩) n cm]) := HC9.out.more _
   have HBw : Hid (Made w.heap.size w (W9.alloc (.cells #[.int .i64 (i : Nat), .int .i64 (j : Nat), .int .i64 nx, .int .i64 ny, .int .i64 rax, .int .i64 ray, .int .i64 rbx, .int .i64 rby, .int .i64 tg, .int .i64 tf, .pointer (some ⟨gb, oa, none⟩), .pointer (some ⟨gb, ob, none⟩), .int .i64 A0, .int .i64 A1, .int .i64 A2, .int .i64 A3, .int .i64 B0, .int .i64 B1, .int .i64 B2, .int .i64 B3, .int .i64 rax, .int .i64 ray, .int .i64 rbx, .int .i64 rby] 148))) := HB9.out.cells HB9.out.1.size _ _
   have hs5 : g0 ≤ W9.heap.size := by rw [← eg0]; exact HB9.out.1.size
   have HE1 : Hid (∀ u ∈ ([.int .i64 (i : Nat), .int .i64 (j : Nat), .int .i64 nx, .int .i64 ny, .int .i64 rax, .int .i64 ray, .int .i64 rbx, .int .i64 rby, .int .i64 tg, .int .i64 tf, .pointer (some ⟨gb, oa, none⟩), .pointer (some ⟨gb, ob, none⟩), .int .i64 A0, .int .i64 A1, .int .i64 A2, .int .i64 A3, .int .i64 B0, .int .i64 B1, .int .i64 B2, .int .i64 B3, .int .i64 rax, .int .i64 ray, .int .i64 rbx, .int .i64 rby] : List Value), u.oneCell' = true) := by unfold Hid; rw [← HLK.out]; exact encHo_one gb _
   go_wp2_with (first
    | refine wpList_load_row rfl 69 (.tmp 7) rfl g7 rfl 69 _ (0, 0) _ HT9.out Tryz.underlying69 rfl hszt ?_
    | refine wpList_load_row rfl 144 (.tmp 8) rfl g8 rfl 144 _ (0, 0) _ HX9.out Tryz.underlying144 rfl hsz ?_
    | (at_builtin; refine wpList_append_at rfl (.tmp 30) (.tmp 34) 140 rfl g0 148 iO (.agg #[.int .i64 0, .int .i64 0, .int .i64 0, .int .i64 0, .int .i64 0, .int .i64 0, .int .i64 0, .int .i64 0, .int .i64 0, .int .i64 0, .pointer none, .pointer none, .int .i64 0, .int .i64 0, .int .i64 0, .int .i64 0, .int .i64 0, .int .i64 0, .int .i64 0, .int .i64 0, .int .i64 0, .int .i64 0, .int .i64 0, .int .i64 0]) 24 192 Tryz.underlying140 iHi.out iH0.out iH1.out iH2.out rfl (by decide) (.slice op k cp) k (flatE (encHo gb) ((holdL L R).take k)) rfl HOw.out ⟨W9.heap.size, 0, none⟩ 1 1 [.int .i64 (i : Nat), .int .i64 (j : Nat), .int .i64 nx, .int .i64 ny, .int .i64 rax, .int .i64 ray, .int .i64 rbx, .int .i64 rby, .int .i64 tg, .int .i64 tf, .pointer (some ⟨gb, oa, none⟩), .pointer (some ⟨gb, ob, none⟩), .int .i64 A0, .int .i64 A1, .int .i64 A2, .int .i64 A3, .int .i64 B0, .int .i64 B1, .int .i64 B2, .int .i64 B3, .int .i64 rax, .int .i64 ray, .int .i64 rbx, .int .i64 rby] rfl rfl (has_news HNb.out) HE1.out (by unfold maxLen; omega) (by omega) (by simp; omega) (by omega) ?_))
   intro v6 w6 hown hbt hnx
   have hg0n : some g0 ≠ (Value.slice op k cp).ownBlock := own_apart HOw.out HCw.out (by decide)
   have HC6 := hid (HCw.out.but hbt hg0n)
   have HB6 : Hid (Made w.heap.size w w6) := But.made_ HBw.out hbt (by simp; omega) (fun b hb => by have := (HOw.out.lt b hb.symm).1; omega)
   rw [← HLK.out, flatE_snoc, ← take_snoc HPx.out] at hown
   obtain ⟨om6, cm6, rfl⟩ : ∃ o c, v6 = .slice o (k + 1) c := by
    rcases hown.2 with ⟨_, h⟩ | ⟨g, cap, cur, e, _⟩
    ·omega
    ·exact ⟨_, _, e⟩
   have HO6 := hid hown
   clear hown hbt hnx hg0n HOw HNb HCw HBw HO9 HC9 HB9 HX9 HT9
   go_wp2_with fail
   go_roundg (m - (k + 1))
   case measure => omega
   case rel => exact ⟨k + 1, by omega, by go_num, ⟨om6, cm6, rfl, HO6.out⟩, HC6.out, HB6.out⟩
  ·have e : k = m := by omega
   subst e
   go_wp2_with fail
   go_ret
   refine ⟨op, cp, rfl, HB.out, ?_⟩
   rw [eg0]
   have h := HO.out
   rw [List.take_of_length_le (by rw [hold_len, HRm.out]; exact Nat.le_refl _)] at h
   exact h
end Go.Proofs.YtcfphdcinihdbaaGreat.Fx
/- Package solve: limit, on a row of bodies of one's own. -/
namespace Go.Proofs.YtcfphdcinihdbaaGreat.Fx
open Go.ChangeShapes Go.WideShapes Go.ChangeAt Go.RowKit
set_option linter.unusedVariables false
theorem limit_c {t : TypeId} {g n i : Nat} {L : List Bd} {b : Bd} (x y z : Int) (w : World) (hL : RowL encB 11 w g t n L) (hi : L[i]? = some b) (hB : BdI b)
  (ex : Hid (bringF b.vx (negF 17592186044416) 17592186044416 = x)) (ey : Hid (bringF b.vy (negF 17592186044416) 17592186044416 = y)) (ez : Hid (bringF b.sp (-1099511627776) 1099511627776 = z)) :
  Calls Tryz.prog 79 #[.pointer (some ⟨g, i * 11, none⟩)] w fun e v => e = .returned (.tuple #[]) ∧ But (fun x => x = g) w v ∧ RowL encB 11 v g t n (L.set i { b with vx := x, vy := y, sp := z }) := by
 have lg := hL.here
 have hil := (List.getElem?_eq_some_iff.1 hi).1
 obtain ⟨oa, hoa⟩ : ∃ o, i * 11 = o := ⟨_, rfl⟩
 have c3 : w.cell? ⟨g, oa + 3, none⟩ = some (.int .i64 b.vx) := by rw [← hoa]; exact hL.at1 encB_len hi rfl
 have c4 : w.cell? ⟨g, oa + 4, none⟩ = some (.int .i64 b.vy) := by rw [← hoa]; exact hL.at1 encB_len hi rfl
 have hfr : ∀ o, w.frozen? ⟨g, o, none⟩ = false := hL.free
 have iv := hB.vx
 have iv' := hB.vy
 have iu := hB.sp
 have hm : I64 17592186044416 := by unfold I64; omega
 have hm1 : I64 1099511627776 := by unfold I64; omega
 have hm2 : I64 (-1099511627776) := by unfold I64; omega
 have HL := hid hL
 rw [hoa]
 have HO := hid hoa
 clear hoa hL
 go_enter Tryz.func79, Tryz.ntmps79
 go_wp2_with fail
 refine (vbring_is b.vx b.vy 17592186044416 x y _ iv iv' hm ex.out ey.out).mono ?_
 rintro e w1 ⟨rfl, k1⟩
 have c3 := k1.reads c3
 have c4 := k1.reads c4
 have hfr1 : ∀ o, w1.frozen? ⟨g, o, none⟩ = false := fun o => (k1.2 _).trans (hfr o)
 have KM := hid k1
 clear k1 hfr
 go_upto_region 1 with fail
 obtain ⟨Wa, eW⟩ : ∃ W, W = (w1.setCell ⟨g, oa + 3, none⟩ (.int .i64 x)).setCell ⟨g, oa + 3 + 1, none⟩ (.int .i64 y) := ⟨_, rfl⟩
 have L1 : Hid (RowL encB 11 Wa g t n (L.set i { b with vx := x, vy := y })) := by
  have r1 := (HL.out.stays KM.out lg).put1 encB_len (j := 3) (x' := { b with vx := x }) (u := .int .i64 x) hi (by omega) rfl
  have r2 := r1.put1 encB_len (i := i) (j := 4) (x := { b with vx := x }) (x' := { b with vx := x, vy := y }) (u := .int .i64 y) (List.getElem?_set_self hil) (by omega) rfl
  rw [List.set_set] at r2
  unfold Hid
  rw [eW, ← HO.out]
  exact r2
 have BW : Hid (But (fun x => x = g) w Wa) := by unfold Hid; rw [eW]; exact ((Made.but (X := fun x => x = g) KM.out).put (p := ⟨g, oa + 3, none⟩) (.inl rfl) _).put (p := ⟨g, oa + 3 + 1, none⟩) (.inl rfl) _
 have c6 : Wa.cell? ⟨g, oa + 6, none⟩ = some (.int .i64 b.sp) := by rw [← HO.out]; exact L1.out.at1 (x := { b with vx := x, vy := y }) encB_len (List.getElem?_set_self hil) rfl
 have hfrA : ∀ o, Wa.frozen? ⟨g, o, none⟩ = false := L1.out.free
 rw [← eW]
 clear eW c3 c4 hfr1 KM HL iv iv'
 go_wp2_with fail
 refine (bring_is b.sp (-1099511627776) 1099511627776 z _ iu hm2 hm1 ez.out).mono ?_
 rintro e w2 ⟨rfl, rfl⟩
 go_wp2_with fail
 refine bodyPost_end (results_none rfl _ _ _) rfl ⟨rfl, ?_, ?_⟩
 ·exact BW.out.put (p := ⟨g, oa + 6, none⟩) (.inl rfl) _
 ·have r1 := L1.out.put1 encB_len (i := i) (j := 6) (x := { b with vx := x, vy := y }) (x' := { b with vx := x, vy := y, sp := z }) (u := .int .i64 z) (List.getElem?_set_self hil) (by omega) rfl
  rw [List.set_set, HO.out] at r1
  exact r1
end Go.Proofs.YtcfphdcinihdbaaGreat.Fx
/- Package solve: a tie's pull. -/
namespace Go.Proofs.YtcfphdcinihdbaaGreat.Fx
open Go.ChangeShapes Go.WideShapes Go.ChangeAt Go.RowKit
set_option linter.unusedVariables false
theorem neg_is1 (a r : Int) (w : World) (ha : I64 a) (e : negF a = r) : Calls Tryz.prog 51 #[.int .i64 a] w fun e w' => e = .returned (.int .i64 r) ∧ w = w' := by subst e; exact neg_c a w ha
theorem pull_c {t : TypeId} {g n i k : Nat} {L : List Bd} {a b0 b : Bd} (tA tB nx ny trax tray trbx trby G Off : Int) (m1 i1 v1 s1 m2 i2 v2 s2 rax ray rbx rby : Int)
  (spx spy sax say sqx sqy sbx sby sdx sdy r sm ms nm px py : Int) (ux uy ax ay cc dd asp qx qy bx by_ ee ff bsp : Int) (w : World)
  (hL : RowL encB 11 w g t n L) (hi : L[i]? = some a) (hk0 : L[k]? = some b0) (hk : (L.set i { a with vx := ax, vy := ay, sp := asp })[k]? = some b) (hA : BdI a) (hB0 : BdI b0) (hB : BdI b)
  (h1 : I64 rax) (h2 : I64 ray) (h3 : I64 rbx) (h4 : I64 rby) (h5 : I64 nx) (h6 : I64 ny) (h7 : I64 v1) (h8 : I64 s1) (h9 : I64 v2) (h10 : I64 s2) (h11 : I64 G) (h12 : I64 Off)
  (ep : Hid (mulF (negF ray) a.sp = spx)) (ep' : Hid (mulF rax a.sp = spy)) (ea0 : Hid (addF a.vx spx = sax)) (ea0' : Hid (addF a.vy spy = say))
  (eq0 : Hid (mulF (negF rby) b0.sp = sqx)) (eq0' : Hid (mulF rbx b0.sp = sqy)) (eb0 : Hid (addF b0.vx sqx = sbx)) (eb0' : Hid (addF b0.vy sqy = sby))
  (ed0 : Hid (subF sbx sax = sdx)) (ed0' : Hid (subF sby say = sdy)) (er : Hid (addF (mulF sdx nx) (mulF sdy ny) = r))
  (em : Hid (addF r Off = sm)) (em' : Hid (mulF G sm = ms)) (en : Hid (negF ms = nm)) (epx : Hid (mulF nx nm = px)) (epy : Hid (mulF ny nm = py))
  (eu : Hid (mulF px v1 = ux)) (eu' : Hid (mulF py v1 = uy)) (ea : Hid (subF a.vx ux = ax)) (ea' : Hid (subF a.vy uy = ay))
  (ec : Hid (subF (mulF rax py) (mulF ray px) = cc)) (ed : Hid (mulF s1 cc = dd)) (es : Hid (subF a.sp dd = asp))
  (eq : Hid (mulF px v2 = qx)) (eq' : Hid (mulF py v2 = qy)) (eb : Hid (addF b.vx qx = bx)) (eb' : Hid (addF b.vy qy = by_))
  (ee_ : Hid (subF (mulF rbx py) (mulF rby px) = ee)) (ef : Hid (mulF s2 ee = ff)) (et : Hid (addF b.sp ff = bsp)) :
  Calls Tryz.prog 76 #[.agg #[.int .i64 tA, .int .i64 tB, .int .i64 nx, .int .i64 ny, .int .i64 trax, .int .i64 tray, .int .i64 trbx, .int .i64 trby, .int .i64 G, .int .i64 Off,
   .pointer (some ⟨g, i * 11, none⟩), .pointer (some ⟨g, k * 11, none⟩), .int .i64 m1, .int .i64 i1, .int .i64 v1, .int .i64 s1, .int .i64 m2, .int .i64 i2, .int .i64 v2, .int .i64 s2, .int .i64 rax, .int .i64 ray, .int .i64 rbx, .int .i64 rby]] w
   fun e v => e = .returned (.tuple #[]) ∧ But (fun x => x = g) w v ∧ RowL encB 11 v g t n ((L.set i { a with vx := ax, vy := ay, sp := asp }).set k { b with vx := bx, vy := by_, sp := bsp }) := by
 have jr : I64 r := by rw [← er.out]; exact i64_add _ _
 have jm : I64 sm := by rw [← em.out]; exact i64_add _ _
 have jm' : I64 ms := by rw [← em'.out]; exact i64_mul _ _
 have jn : I64 nm := by rw [← en.out]; exact i64_neg jm'
 have jp : I64 px := by rw [← epx.out]; exact i64_mul _ _
 have jp' : I64 py := by rw [← epy.out]; exact i64_mul _ _
 have lg := hL.here
 have k0 := hA.vx
 have k1 := hA.vy
 have k2 := hA.sp
 have k3 := hB0.vx
 have k4 := hB0.vy
 have k5 := hB0.sp
 obtain ⟨oa, hoa⟩ : ∃ o, i * 11 = o := ⟨_, rfl⟩
 obtain ⟨ob, hob⟩ : ∃ o, k * 11 = o := ⟨_, rfl⟩
 have c3 : w.cell? ⟨g, oa + 3, none⟩ = some (.int .i64 a.vx) := by rw [← hoa]; exact hL.at1 encB_len hi rfl
 have c4 : w.cell? ⟨g, oa + 4, none⟩ = some (.int .i64 a.vy) := by rw [← hoa]; exact hL.at1 encB_len hi rfl
 have c6 : w.cell? ⟨g, oa + 6, none⟩ = some (.int .i64 a.sp) := by rw [← hoa]; exact hL.at1 encB_len hi rfl
 have d3 : w.cell? ⟨g, ob + 3, none⟩ = some (.int .i64 b0.vx) := by rw [← hob]; exact hL.at1 encB_len hk0 rfl
 have d4 : w.cell? ⟨g, ob + 4, none⟩ = some (.int .i64 b0.vy) := by rw [← hob]; exact hL.at1 encB_len hk0 rfl
 have d6 : w.cell? ⟨g, ob + 6, none⟩ = some (.int .i64 b0.sp) := by rw [← hob]; exact hL.at1 encB_len hk0 rfl
 have HL := hid hL
 have HA := hid hA
 have HB := hid hB
 have HI := hid hi
 have HK := hid hk
 rw [hoa, hob]
 have HO := hid hoa
 have HO' := hid hob
 clear hoa hob hL hA hB hB0 hi hk hk0
 go_enter Tryz.func76, Tryz.ntmps76
 go_upto_region 1 with fail
 refine reg_made (by kernel_rfl) (by kernel_rfl) ?_
 intro T hT f hf
 have y2 := Class.reads hf (p := ⟨w.heap.size, 2, none⟩) (u := .int .i64 nx) (by go_simp)
 have y3 := Class.reads hf (p := ⟨w.heap.size, 3, none⟩) (u := .int .i64 ny) (by go_simp)
 have y8 := Class.reads hf (p := ⟨w.heap.size, 8, none⟩) (u := .int .i64 G) (by go_simp)
 have y9 := Class.reads hf (p := ⟨w.heap.size, 9, none⟩) (u := .int .i64 Off) (by go_simp)
 have y10 := Class.reads hf (p := ⟨w.heap.size, 10, none⟩) (u := .pointer (some ⟨g, oa, none⟩)) (by go_simp)
 have y11 := Class.reads hf (p := ⟨w.heap.size, 11, none⟩) (u := .pointer (some ⟨g, ob, none⟩)) (by go_simp)
 have y12 := Class.reads hf (p := ⟨w.heap.size, 12, none⟩) (u := .int .i64 m1) (by go_simp)
 have y13 := Class.reads hf (p := ⟨w.heap.size, 13, none⟩) (u := .int .i64 i1) (by go_simp)
 have y14 := Class.reads hf (p := ⟨w.heap.size, 14, none⟩) (u := .int .i64 v1) (by go_simp)
 have y15 := Class.reads hf (p := ⟨w.heap.size, 15, none⟩) (u := .int .i64 s1) (by go_simp)
 have y16 := Class.reads hf (p := ⟨w.heap.size, 16, none⟩) (u := .int .i64 m2) (by go_simp)
 have y17 := Class.reads hf (p := ⟨w.heap.size, 17, none⟩) (u := .int .i64 i2) (by go_simp)
 have y18 := Class.reads hf (p := ⟨w.heap.size, 18, none⟩) (u := .int .i64 v2) (by go_simp)
 have y19 := Class.reads hf (p := ⟨w.heap.size, 19, none⟩) (u := .int .i64 s2) (by go_simp)
 have y20 := Class.reads hf (p := ⟨w.heap.size, 20, none⟩) (u := .int .i64 rax) (by go_simp)
 have y21 := Class.reads hf (p := ⟨w.heap.size, 21, none⟩) (u := .int .i64 ray) (by go_simp)
 have y22 := Class.reads hf (p := ⟨w.heap.size, 22, none⟩) (u := .int .i64 rbx) (by go_simp)
 have y23 := Class.reads hf (p := ⟨w.heap.size, 23, none⟩) (u := .int .i64 rby) (by go_simp)
 have c3' := Class.reads hf (p := ⟨g, oa + 3, none⟩) (u := .int .i64 a.vx) (by go_simp)
 have c4' := Class.reads hf (p := ⟨g, oa + 4, none⟩) (u := .int .i64 a.vy) (by go_simp)
 have c6' := Class.reads hf (p := ⟨g, oa + 6, none⟩) (u := .int .i64 a.sp) (by go_simp)
 have d3' := Class.reads hf (p := ⟨g, ob + 3, none⟩) (u := .int .i64 b0.vx) (by go_simp)
 have d4' := Class.reads hf (p := ⟨g, ob + 4, none⟩) (u := .int .i64 b0.vy) (by go_simp)
 have d6' := Class.reads hf (p := ⟨g, ob + 6, none⟩) (u := .int .i64 b0.sp) (by go_simp)
 repeat (go_big_quiet_step ((first
  | (go_at_call 133; exact hf.made (speed_c g oa g ob m1 i1 v1 s1 m2 i2 v2 s2 rax ray rbx rby nx ny a.vx a.vy a.sp b0.vx b0.vy b0.sp spx spy sax say sqx sqy sbx sby sdx sdy r _ h1 h2 h3 h4 h5 h6 k0 k1 k2 k3 k4 k5 (c3' _) (c4' _) (c6' _) (d3' _) (d4' _) (d6' _) ep ep' ea0 ea0' eq0 eq0' eb0 eb0' ed0 ed0' er))
  | (go_at_call 50; with_reducible exact hf.same (add_is r Off sm _ jr h12 em.out))
  | (go_at_call 19; with_reducible exact hf.same (mul_is G sm ms _ h11 jm em'.out)))))
 refine wpQuiet_nil ?_
 intro w1 g1
 have hb := hf.here g1
 have x2 := hb.reads (p := ⟨w.heap.size, 2, none⟩) (x := .int .i64 nx) (by go_simp)
 have x3 := hb.reads (p := ⟨w.heap.size, 3, none⟩) (x := .int .i64 ny) (by go_simp)
 have x10 := hb.reads (p := ⟨w.heap.size, 10, none⟩) (x := .pointer (some ⟨g, oa, none⟩)) (by go_simp)
 have x11 := hb.reads (p := ⟨w.heap.size, 11, none⟩) (x := .pointer (some ⟨g, ob, none⟩)) (by go_simp)
 have x12 := hb.reads (p := ⟨w.heap.size, 12, none⟩) (x := .int .i64 m1) (by go_simp)
 have x13 := hb.reads (p := ⟨w.heap.size, 13, none⟩) (x := .int .i64 i1) (by go_simp)
 have x14 := hb.reads (p := ⟨w.heap.size, 14, none⟩) (x := .int .i64 v1) (by go_simp)
 have x15 := hb.reads (p := ⟨w.heap.size, 15, none⟩) (x := .int .i64 s1) (by go_simp)
 have x16 := hb.reads (p := ⟨w.heap.size, 16, none⟩) (x := .int .i64 m2) (by go_simp)
 have x17 := hb.reads (p := ⟨w.heap.size, 17, none⟩) (x := .int .i64 i2) (by go_simp)
 have x18 := hb.reads (p := ⟨w.heap.size, 18, none⟩) (x := .int .i64 v2) (by go_simp)
 have x19 := hb.reads (p := ⟨w.heap.size, 19, none⟩) (x := .int .i64 s2) (by go_simp)
 have x20 := hb.reads (p := ⟨w.heap.size, 20, none⟩) (x := .int .i64 rax) (by go_simp)
 have x21 := hb.reads (p := ⟨w.heap.size, 21, none⟩) (x := .int .i64 ray) (by go_simp)
 have x22 := hb.reads (p := ⟨w.heap.size, 22, none⟩) (x := .int .i64 rbx) (by go_simp)
 have x23 := hb.reads (p := ⟨w.heap.size, 23, none⟩) (x := .int .i64 rby) (by go_simp)
 have KM := hid (made_box hb)
 clear hb hf g1 c3 c4 c6 d3 d4 d6 c3' c4' c6' d3' d4' d6' y2 y3 y8 y9 y10 y11 y12 y13 y14 y15 y16 y17 y18 y19 y20 y21 y22 y23
 go_upto_region 2 with fail
 refine reg_made_tail 8 (by kernel_rfl) (by kernel_rfl) ?_
 intro T hT f hf
 have y2 := Class.reads hf x2
 have y3 := Class.reads hf x3
 have y10 := Class.reads hf x10
 have y11 := Class.reads hf x11
 have y12 := Class.reads hf x12
 have y13 := Class.reads hf x13
 have y14 := Class.reads hf x14
 have y15 := Class.reads hf x15
 have y16 := Class.reads hf x16
 have y17 := Class.reads hf x17
 have y18 := Class.reads hf x18
 have y19 := Class.reads hf x19
 have y20 := Class.reads hf x20
 have y21 := Class.reads hf x21
 have y22 := Class.reads hf x22
 have y23 := Class.reads hf x23
 simp only [List.take_succ_cons, List.take_zero, List.drop_succ_cons, List.drop_zero]
 repeat (go_big_quiet_step ((first
  | (go_at_call 51; with_reducible exact hf.same (neg_is1 ms nm _ jm' en.out))
  | (go_at_call 70; with_reducible exact hf.made (vscale_is nx ny nm px py _ h5 h6 jn epx.out epy.out)))))
 refine wpQuiet_nil ?_
 intro w2 g2
 have hb := hf.here g2
 have K2 := hid (KM.out.then_ (hb.low KM.out.1.size))
 have L2 := HL.out.stays K2.out lg
 have hap := apply_c m1 i1 v1 s1 m2 i2 v2 s2 rax ray rbx rby px py ux uy ax ay cc dd asp qx qy bx by_ ee ff bsp w2 L2 HI.out HK.out HA.out HB.out h1 h2 h3 h4 jp jp' h7 h8 h9 h10 eu eu' ea ea' ec ed es eq eq' eb eb' ee_ ef et
 rw [HO.out, HO'.out] at hap
 have HAP := hid hap
 clear hap hb hf g2 L2
 go_wp2_with fail
 refine HAP.out.mono ?_
 rintro e v ⟨rfl, kb, kl⟩
 have KB := hid kb
 have KL := hid kl
 clear kb kl HAP
 go_wp2_with fail
 exact bodyPost_end (results_none rfl _ _ _) rfl ⟨rfl, K2.out.but.then_ KB.out, KL.out⟩
end Go.Proofs.YtcfphdcinihdbaaGreat.Fx
/- Package solve: a row begins with what it pushed with before. -/
namespace Go.Proofs.YtcfphdcinihdbaaGreat.Fx
open Go.ChangeShapes Go.WideShapes Go.ChangeAt Go.RowKit
set_option linter.unusedVariables false
theorem begin_c {t : TypeId} {g n i k gr og : Nat} {L : List Bd} {a b : Bd} (nx ny N T : Int) (m1 i1 v1 s1 m2 i2 v2 s2 rax ray rbx rby : Int)
  (sx sy lx tx ty px py : Int) (ux uy ax ay cc dd asp qx qy bx by_ ee ff bsp : Int) (w : World)
  (hL : RowL encB 11 w g t n L) (hi : L[i]? = some a) (hk : (L.set i { a with vx := ax, vy := ay, sp := asp })[k]? = some b) (hA : BdI a) (hB : BdI b)
  (c3 : w.cell? ⟨gr, og + 3, none⟩ = some (.int .i64 nx)) (c4 : w.cell? ⟨gr, og + 4, none⟩ = some (.int .i64 ny)) (c12 : w.cell? ⟨gr, og + 12, none⟩ = some (.int .i64 N)) (c13 : w.cell? ⟨gr, og + 13, none⟩ = some (.int .i64 T))
  (h1 : I64 rax) (h2 : I64 ray) (h3 : I64 rbx) (h4 : I64 rby) (h5 : I64 nx) (h6 : I64 ny) (h7 : I64 v1) (h8 : I64 s1) (h9 : I64 v2) (h10 : I64 s2) (h11 : I64 N) (h12 : I64 T)
  (e1 : Hid (mulF nx N = sx)) (e2 : Hid (mulF ny N = sy)) (e3 : Hid (negF ny = lx)) (e4 : Hid (mulF lx T = tx)) (e5 : Hid (mulF nx T = ty)) (e6 : Hid (addF sx tx = px)) (e7 : Hid (addF sy ty = py))
  (eu : Hid (mulF px v1 = ux)) (eu' : Hid (mulF py v1 = uy)) (ea : Hid (subF a.vx ux = ax)) (ea' : Hid (subF a.vy uy = ay))
  (ec : Hid (subF (mulF rax py) (mulF ray px) = cc)) (ed : Hid (mulF s1 cc = dd)) (es : Hid (subF a.sp dd = asp))
  (eq : Hid (mulF px v2 = qx)) (eq' : Hid (mulF py v2 = qy)) (eb : Hid (addF b.vx qx = bx)) (eb' : Hid (addF b.vy qy = by_))
  (ee_ : Hid (subF (mulF rbx py) (mulF rby px) = ee)) (ef : Hid (mulF s2 ee = ff)) (et : Hid (addF b.sp ff = bsp)) :
  Calls Tryz.prog 75 #[.agg #[.pointer (some ⟨gr, og, none⟩), .pointer (some ⟨g, i * 11, none⟩), .pointer (some ⟨g, k * 11, none⟩), .int .i64 m1, .int .i64 i1, .int .i64 v1, .int .i64 s1, .int .i64 m2, .int .i64 i2, .int .i64 v2, .int .i64 s2, .int .i64 rax, .int .i64 ray, .int .i64 rbx, .int .i64 rby]] w
   fun e v => e = .returned (.tuple #[]) ∧ But (fun x => x = g) w v ∧ RowL encB 11 v g t n ((L.set i { a with vx := ax, vy := ay, sp := asp }).set k { b with vx := bx, vy := by_, sp := bsp }) := by
 have j1 : I64 sx := by rw [← e1.out]; exact i64_mul _ _
 have j2 : I64 sy := by rw [← e2.out]; exact i64_mul _ _
 have j3 : I64 lx := by rw [← e3.out]; exact i64_neg h6
 have j4 : I64 tx := by rw [← e4.out]; exact i64_mul _ _
 have j5 : I64 ty := by rw [← e5.out]; exact i64_mul _ _
 have jp : I64 px := by rw [← e6.out]; exact i64_add _ _
 have jp' : I64 py := by rw [← e7.out]; exact i64_add _ _
 have lg := hL.here
 have lr := World.block_lt_of_cell? _ _ c3
 simp only at lr
 obtain ⟨oa, hoa⟩ : ∃ o, i * 11 = o := ⟨_, rfl⟩
 obtain ⟨ob, hob⟩ : ∃ o, k * 11 = o := ⟨_, rfl⟩
 have HAP := hid (fun (w2 : World) (k2 : Made w.heap.size w w2) => apply_c m1 i1 v1 s1 m2 i2 v2 s2 rax ray rbx rby px py ux uy ax ay cc dd asp qx qy bx by_ ee ff bsp w2 (hL.stays k2 lg) hi hk hA hB h1 h2 h3 h4 jp jp' h7 h8 h9 h10 eu eu' ea ea' ec ed es eq eq' eb eb' ee_ ef et)
 rw [hoa, hob] at HAP
 rw [hoa, hob]
 clear hoa hob hL hA hB hi hk
 go_enter Tryz.func75, Tryz.ntmps75
 go_upto_region 1 with fail
 refine reg_made_tail 26 (by kernel_rfl) (by kernel_rfl) ?_
 intro T' hT f hf
 have y0 := Class.reads hf (p := ⟨w.heap.size, 0, none⟩) (u := .pointer (some ⟨gr, og, none⟩)) (by go_simp)
 have y1 := Class.reads hf (p := ⟨w.heap.size, 1, none⟩) (u := .pointer (some ⟨g, oa, none⟩)) (by go_simp)
 have y2 := Class.reads hf (p := ⟨w.heap.size, 2, none⟩) (u := .pointer (some ⟨g, ob, none⟩)) (by go_simp)
 have y3 := Class.reads hf (p := ⟨w.heap.size, 3, none⟩) (u := .int .i64 m1) (by go_simp)
 have y4 := Class.reads hf (p := ⟨w.heap.size, 4, none⟩) (u := .int .i64 i1) (by go_simp)
 have y5 := Class.reads hf (p := ⟨w.heap.size, 5, none⟩) (u := .int .i64 v1) (by go_simp)
 have y6 := Class.reads hf (p := ⟨w.heap.size, 6, none⟩) (u := .int .i64 s1) (by go_simp)
 have y7 := Class.reads hf (p := ⟨w.heap.size, 7, none⟩) (u := .int .i64 m2) (by go_simp)
 have y8 := Class.reads hf (p := ⟨w.heap.size, 8, none⟩) (u := .int .i64 i2) (by go_simp)
 have y9 := Class.reads hf (p := ⟨w.heap.size, 9, none⟩) (u := .int .i64 v2) (by go_simp)
 have y10 := Class.reads hf (p := ⟨w.heap.size, 10, none⟩) (u := .int .i64 s2) (by go_simp)
 have y11 := Class.reads hf (p := ⟨w.heap.size, 11, none⟩) (u := .int .i64 rax) (by go_simp)
 have y12 := Class.reads hf (p := ⟨w.heap.size, 12, none⟩) (u := .int .i64 ray) (by go_simp)
 have y13 := Class.reads hf (p := ⟨w.heap.size, 13, none⟩) (u := .int .i64 rbx) (by go_simp)
 have y14 := Class.reads hf (p := ⟨w.heap.size, 14, none⟩) (u := .int .i64 rby) (by go_simp)
 have c3' := Class.reads hf (p := ⟨gr, og + 3, none⟩) (u := .int .i64 nx) (by go_simp)
 have c4' := Class.reads hf (p := ⟨gr, og + 4, none⟩) (u := .int .i64 ny) (by go_simp)
 have c12' := Class.reads hf (p := ⟨gr, og + 12, none⟩) (u := .int .i64 N) (by go_simp)
 have c13' := Class.reads hf (p := ⟨gr, og + 13, none⟩) (u := .int .i64 T) (by go_simp)
 simp only [List.take_succ_cons, List.take_zero, List.drop_succ_cons, List.drop_zero]
 repeat (go_big_quiet_step ((first
  | (go_at_call 70; with_reducible exact hf.made (vscale_is nx ny N sx sy _ h5 h6 h11 e1.out e2.out))
  | (go_at_call 70; with_reducible exact hf.made (vscale_is lx nx T tx ty _ j3 h5 h12 e4.out e5.out))
  | (go_at_call 18; with_reducible exact hf.made (vleft_is nx ny lx _ h5 h6 e3.out))
  | (go_at_call 25; with_reducible exact hf.made (vadd_is sx sy tx ty px py _ j1 j2 j4 j5 e6.out e7.out)))))
 refine wpQuiet_nil ?_
 intro w2 g2
 have hb := hf.here g2
 have K2 := hid (made_box hb)
 have HQ := hid (HAP.out w2 K2.out)
 clear HAP hb hf g2
 go_wp2_with fail
 refine HQ.out.mono ?_
 rintro e v ⟨rfl, kb, kl⟩
 have KB := hid kb
 have KL := hid kl
 clear kb kl HQ
 go_wp2_with fail
 exact bodyPost_end (results_none rfl _ _ _) rfl ⟨rfl, K2.out.but.then_ KB.out, KL.out⟩
end Go.Proofs.YtcfphdcinihdbaaGreat.Fx