/- WoZ -/
import Derived.Test.YtfncelifflebbaaGreatV26

/- RemoveBody. -/

namespace Go.Proofs.YtfncelifflebbaaGreat.Fx
open Go.ChangeShapes Go.WideShapes Go.ChangeAt Go.RowKit
set_option linter.unusedVariables false

def RemovedB (X : Nat → Prop) (w : World) (gw : Nat) (tk nb nj gx gy : Int) (B : List Bd) (J : List Jt) (C : List Ct) (id : Int) (e : Ending) (v : World) : Prop :=
  (id ∉ B.map (·.id) ∧ e = .returned (.bool false) ∧ Made w.heap.size w v) ∨
  (id ∈ B.map (·.id) ∧ e = .returned (.bool true) ∧ But (fun g => g = gw) w v ∧ WVar X v gw tk nb nj gx gy (B.filter fun x => !goneB id x) (J.filter fun x => !goneJ id x) (C.filter fun x => !goneC id x))
def RemovedBO (oc : Option Addr) (cc : Nat) (X : Nat → Prop) (w : World) (gw : Nat) (tk nb nj gx gy : Int) (B : List Bd) (J : List Jt) (C : List Ct) (id : Int) (e : Ending) (v : World) : Prop :=
  (id ∉ B.map (·.id) ∧ e = .returned (.bool false) ∧ Made w.heap.size w v) ∨
  (id ∈ B.map (·.id) ∧ e = .returned (.bool true) ∧ But (fun g => g = gw) w v ∧ ∃ oc' cc', (oc = none → oc' = none ∧ cc' = 0) ∧ WVarO oc' cc' X v gw tk nb nj gx gy (B.filter fun x => !goneB id x) (J.filter fun x => !goneJ id x) (C.filter fun x => !goneC id x))
set_option maxRecDepth 100000 in
set_option maxHeartbeats 16000000 in
theorem removeBody_o {oc : Option Addr} {cc : Nat} {X : Nat → Prop} {w : World} {gw : Nat} {tk nb nj gx gy : Int} {B : List Bd} {J : List Jt} {C : List Ct} (id : Int) (hV : WVarO oc cc X w gw tk nb nj gx gy B J C) (hXg : X gw) (hXw : ∀ b, X b → b < w.heap.size) (hmB : B.length ≤ 1073741824) (hmJ : J.length ≤ 1073741824) (hmC : C.length ≤ 1073741824) (hup : (B.map (·.id)).Pairwise (· < ·)) :
    Calls Tryz.prog 20 #[.pointer (some ⟨gw, 0, none⟩), .int .i64 id] w (RemovedBO oc cc X w gw tk nb nj gx gy B J C id) := by
  obtain ⟨ob, oj, cb, cj, hH, hL⟩ := hV
  obtain ⟨nB, hnB⟩ : ∃ m, B.length = m := ⟨_, rfl⟩
  obtain ⟨nJ, hnJ⟩ : ∃ m, J.length = m := ⟨_, rfl⟩
  obtain ⟨nC, hnC⟩ : ∃ m, C.length = m := ⟨_, rfl⟩
  rw [hnB, hnJ, hnC] at hH
  have lgw : gw < w.heap.size := hH.here
  have HN := hid (And.intro hnB (And.intro hnJ hnC))
  have HL := hid hL
  have HXW := hid hXw
  obtain ⟨r, hr⟩ := a_bool (id ∈ B.map (·.id) ∧ id ∈ B.map (·.id))
  have HQ := hid hr
  have HEX := hid (fun v (k' : Made w.heap.size w v) => exist_c tk nb nj gx gy oj oc nJ cj nC cc (c := cb) id id r hnB (by rw [← hnB]; exact hmB) (hL.at_.lB.below k'.1) hup hr)
  have hmB' : nB ≤ 1073741824 := by rw [← hnB]; exact hmB
  have hmJ' : nJ ≤ 1073741824 := by rw [← hnJ]; exact hmJ
  have hmC' : nC ≤ 1073741824 := by rw [← hnC]; exact hmC
  obtain ⟨W, eW⟩ : ∃ W, W = w.alloc (.cells #[.int .i64 id] 3) := ⟨_, rfl⟩
  have KW : Hid (Made w.heap.size w W) := by unfold Hid; rw [eW]; exact (Made.rfl_ _ _).cells (Nat.le_refl _) _ _
  have HB : Hid (Has W w.heap.size 3 #[.int .i64 id]) := by unfold Hid; rw [eW]; exact has_new _ _ _
  have HH : Hid (Has W gw 49 #[.int .i64 tk, .int .i64 nb, .int .i64 nj, .int .i64 gx, .int .i64 gy, .slice ob nB cb, .slice oj nJ cj, .slice oc nC cc]) := hH.stays KW.out lgw
  obtain ⟨g1, eg1⟩ : ∃ g, w.heap.size = g := ⟨_, rfl⟩
  rw [eg1] at HB
  have hg1 : gw < g1 := by omega
  have hne : ¬ gw = g1 := by omega
  have hne' : ¬ g1 = gw := by omega
  have hY : Hid (∀ b, b = gw → X b) := fun b hb => hb ▸ hXg
  clear hr hL hH hXw hnB hnJ hnC lgw hup hmJ hmB hmC
  have a0 := HB.out.at_ 0
  simp at a0
  have b0 := HH.out.at_ 0
  have b1 := HH.out.at_ 1
  have b2 := HH.out.at_ 2
  have b3 := HH.out.at_ 3
  have b4 := HH.out.at_ 4
  have b5 := HH.out.at_ 5
  have b6 := HH.out.at_ 6
  have b7 := HH.out.at_ 7
  simp at b0 b1 b2 b3 b4 b5 b6 b7
  have l0 : gw < W.heap.size := HH.out.here
  have l1 : g1 < W.heap.size := HB.out.here
  go_enter Tryz.func20, Tryz.ntmps20
  go_upto_region 1 with fail
  rw [← eW]
  clear eW
  try rw [eg1]
  refine reg_made (by kernel_rfl) (by kernel_rfl) ?_
  intro Ty hT fw hf
  have y0 := Class.reads hf a0
  have z0 := Class.reads hf b0
  have z1 := Class.reads hf b1
  have z2 := Class.reads hf b2
  have z3 := Class.reads hf b3
  have z4 := Class.reads hf b4
  have z5 := Class.reads hf b5
  have z6 := Class.reads hf b6
  have z7 := Class.reads hf b7
  repeat (go_big_quiet_step ((go_at_call 49; exact hf.made (HEX.out _ (KW.out.then_ ((hf.1 _).low KW.out.1.size))))))
  refine wpQuiet_nil ?_
  intro w1 h1
  have k1 := hf.here h1
  have K1 := hid (KW.out.then_ (k1.low KW.out.1.size))
  have HB1 := hid (HB.out.stays k1 HB.out.here)
  have HH1 := hid (HH.out.stays k1 HH.out.here)
  clear k1 h1 hf a0 y0 b0 b1 b2 b3 b4 b5 b6 b7 z0 z1 z2 z3 z4 z5 z6 z7 l0 l1 HB HH
  have a0 := HB1.out.at_ 0
  simp at a0
  have b0 := HH1.out.at_ 0
  have b1 := HH1.out.at_ 1
  have b2 := HH1.out.at_ 2
  have b3 := HH1.out.at_ 3
  have b4 := HH1.out.at_ 4
  have b5 := HH1.out.at_ 5
  have b6 := HH1.out.at_ 6
  have b7 := HH1.out.at_ 7
  simp at b0 b1 b2 b3 b4 b5 b6 b7
  have l0 : gw < w1.heap.size := HH1.out.here
  have l1 : g1 < w1.heap.size := HB1.out.here
  cases r with
  | false =>
    go_wp2_with fail
    go_ret
    exact .inl ⟨fun h => by have := HQ.out.2 ⟨h, h⟩; simp at this, rfl, K1.out⟩
  | true =>
    have HL1 := hid (HL.out.kept K1.out)
    have HBB : Hid (But (fun b => b = gw) w w1) := Made.but K1.out
    have HW2 := hid (withoutB_x 52 #[.pointer (some ⟨g1, 0, none⟩)] (by intro args w; rfl) (goneB id) (l := B) (ao := ob) (n := nB) (c := cb) (w := w1) HN.out.1 hmB' HL1.out.at_.lB (by have := HL1.out.okB; rw [HN.out.1] at this; exact this)
      (fun x u hu => goneB_c id x g1 u ((HB1.out.stays hu HB1.out.here).at_ 0)))
    go_wp2_with fail
    refine HW2.out.mono ?_
    rintro e w2s ⟨ao2, m2, c2, rfl, hm2, hnew2, k2, hnil2⟩
    have HNil2 := hid hnil2
    clear hnil2
    have hsz2 : Hid (w.heap.size ≤ w1.heap.size) := HBB.out.size
    have HNw2 := hid hnew2
    have HB2s := hid (HB1.out.stays k2 HB1.out.here)
    have HH2s := hid (HH1.out.stays k2 HH1.out.here)
    have HL2s := hid (HL1.out.kept k2)
    have KB2s := hid (HBB.out.then_ (Made.but (X := fun b => b = gw) k2))
    clear k2 hnew2 a0 b0 b1 b2 b3 b4 b5 b6 b7 l0 l1 HB1 HH1 HL1 HBB HW2 
    have b0 := HH2s.out.at_ 0
    have b1 := HH2s.out.at_ 1
    have b2 := HH2s.out.at_ 2
    have b3 := HH2s.out.at_ 3
    have b4 := HH2s.out.at_ 4
    have b5 := HH2s.out.at_ 5
    have b6 := HH2s.out.at_ 6
    have b7 := HH2s.out.at_ 7
    simp at b0 b1 b2 b3 b4 b5 b6 b7
    have l0 : gw < w2s.heap.size := HH2s.out.here
    have fw : ∀ i, w2s.frozen? ⟨gw, i, none⟩ = false := HH2s.out.free
    go_upto_region 4 with fail
    obtain ⟨w2, e2⟩ : ∃ V, V = w2s.setCell ⟨gw, 5, none⟩ (.slice ao2 m2 c2) := ⟨_, rfl⟩
    have kb2 : But (fun b => b = gw) w2s w2 := by rw [e2]; exact (But.rfl_ (fun b => b = gw) _).put (p := ⟨gw, 5, none⟩) (.inl rfl) _
    have HB2 := hid (HB2s.out.but kb2 hne')
    have HH2 : Hid (Has w2 gw 49 #[.int .i64 tk, .int .i64 nb, .int .i64 nj, .int .i64 gx, .int .i64 gy, .slice ao2 m2 c2, .slice oj nJ cj, .slice oc nC cc]) := by unfold Hid; rw [e2]; exact HH2s.out.put 5 _
    have HL2 := hid (HL2s.out.but kb2 hY.out)
    have KB2 := hid (KB2s.out.then_ kb2)
    have of2 : Hid (Offs (fun b => b = gw) ao2) := fun b off s e hb => by have := HNw2.out.fresh b off s e; have := hsz2.out; have hb : b = gw := hb; omega
    have NL22 := hid (HNw2.out.ls.but kb2 of2.out)
    rw [← e2]
    clear e2 kb2 b0 b1 b2 b3 b4 b5 b6 b7 l0 fw HB2s HH2s HL2s KB2s 
    have a0 := HB2.out.at_ 0
    simp at a0
    have b0 := HH2.out.at_ 0
    have b1 := HH2.out.at_ 1
    have b2 := HH2.out.at_ 2
    have b3 := HH2.out.at_ 3
    have b4 := HH2.out.at_ 4
    have b5 := HH2.out.at_ 5
    have b6 := HH2.out.at_ 6
    have b7 := HH2.out.at_ 7
    simp at b0 b1 b2 b3 b4 b5 b6 b7
    have l0 : gw < w2.heap.size := HH2.out.here
    have l1 : g1 < w2.heap.size := HB2.out.here
    have HW3 := hid (withoutJ_x 54 #[.pointer (some ⟨g1, 0, none⟩)] (by intro args w; rfl) (goneJ id) (l := J) (ao := oj) (n := nJ) (c := cj) (w := w2) HN.out.2.1 hmJ' HL2.out.at_.lJ (by have := HL2.out.okJ; rw [HN.out.2.1] at this; exact this)
      (fun x u hu => goneJ_c id x g1 u ((HB2.out.stays hu HB2.out.here).at_ 0)))
    go_wp2_with fail
    refine HW3.out.mono ?_
    rintro e w3s ⟨ao3, m3, c3, rfl, hm3, hnew3, k3, hnil3⟩
    have HNil3 := hid hnil3
    clear hnil3
    have hsz3 : Hid (w.heap.size ≤ w2.heap.size) := KB2.out.size
    have HNw3 := hid hnew3
    have HB3s := hid (HB2.out.stays k3 HB2.out.here)
    have HH3s := hid (HH2.out.stays k3 HH2.out.here)
    have HL3s := hid (HL2.out.kept k3)
    have KB3s := hid (KB2.out.then_ (Made.but (X := fun b => b = gw) k3))
    have NL23s := hid (NL22.out.below k3.1)
    clear k3 hnew3 a0 b0 b1 b2 b3 b4 b5 b6 b7 l0 l1 HB2 HH2 HL2 KB2 HW3 NL22
    have b0 := HH3s.out.at_ 0
    have b1 := HH3s.out.at_ 1
    have b2 := HH3s.out.at_ 2
    have b3 := HH3s.out.at_ 3
    have b4 := HH3s.out.at_ 4
    have b5 := HH3s.out.at_ 5
    have b6 := HH3s.out.at_ 6
    have b7 := HH3s.out.at_ 7
    simp at b0 b1 b2 b3 b4 b5 b6 b7
    have l0 : gw < w3s.heap.size := HH3s.out.here
    have fw : ∀ i, w3s.frozen? ⟨gw, i, none⟩ = false := HH3s.out.free
    go_upto_region 5 with fail
    obtain ⟨w3, e3⟩ : ∃ V, V = w3s.setCell ⟨gw, 6, none⟩ (.slice ao3 m3 c3) := ⟨_, rfl⟩
    have kb3 : But (fun b => b = gw) w3s w3 := by rw [e3]; exact (But.rfl_ (fun b => b = gw) _).put (p := ⟨gw, 6, none⟩) (.inl rfl) _
    have HB3 := hid (HB3s.out.but kb3 hne')
    have HH3 : Hid (Has w3 gw 49 #[.int .i64 tk, .int .i64 nb, .int .i64 nj, .int .i64 gx, .int .i64 gy, .slice ao2 m2 c2, .slice ao3 m3 c3, .slice oc nC cc]) := by unfold Hid; rw [e3]; exact HH3s.out.put 6 _
    have HL3 := hid (HL3s.out.but kb3 hY.out)
    have KB3 := hid (KB3s.out.then_ kb3)
    have of3 : Hid (Offs (fun b => b = gw) ao3) := fun b off s e hb => by have := HNw3.out.fresh b off s e; have := hsz3.out; have hb : b = gw := hb; omega
    have NL33 := hid (HNw3.out.ls.but kb3 of3.out)
    have NL23 := hid (NL23s.out.but kb3 of2.out)
    rw [← e3]
    clear e3 kb3 b0 b1 b2 b3 b4 b5 b6 b7 l0 fw HB3s HH3s HL3s KB3s NL23s
    have a0 := HB3.out.at_ 0
    simp at a0
    have b0 := HH3.out.at_ 0
    have b1 := HH3.out.at_ 1
    have b2 := HH3.out.at_ 2
    have b3 := HH3.out.at_ 3
    have b4 := HH3.out.at_ 4
    have b5 := HH3.out.at_ 5
    have b6 := HH3.out.at_ 6
    have b7 := HH3.out.at_ 7
    simp at b0 b1 b2 b3 b4 b5 b6 b7
    have l0 : gw < w3.heap.size := HH3.out.here
    have l1 : g1 < w3.heap.size := HB3.out.here
    have HW4 := hid (withoutC_x 56 #[.pointer (some ⟨g1, 0, none⟩)] (by intro args w; rfl) (goneC id) (l := C) (ao := oc) (n := nC) (c := cc) (w := w3) HN.out.2.2 hmC' HL3.out.at_.lC (by have := HL3.out.okC; rw [HN.out.2.2] at this; exact this)
      (fun x u hu => goneC_c id x g1 u ((HB3.out.stays hu HB3.out.here).at_ 0)))
    go_wp2_with fail
    refine HW4.out.mono ?_
    rintro e w4s ⟨ao4, m4, c4, rfl, hm4, hnew4, k4, hnil4⟩
    have HNil4 := hid hnil4
    clear hnil4
    have hsz4 : Hid (w.heap.size ≤ w3.heap.size) := KB3.out.size
    have HNw4 := hid hnew4
    have HB4s := hid (HB3.out.stays k4 HB3.out.here)
    have HH4s := hid (HH3.out.stays k4 HH3.out.here)
    have HL4s := hid (HL3.out.kept k4)
    have KB4s := hid (KB3.out.then_ (Made.but (X := fun b => b = gw) k4))
    have NL24s := hid (NL23.out.below k4.1)
    have NL34s := hid (NL33.out.below k4.1)
    clear k4 hnew4 a0 b0 b1 b2 b3 b4 b5 b6 b7 l0 l1 HB3 HH3 HL3 KB3 HW4 NL23 NL33
    have b0 := HH4s.out.at_ 0
    have b1 := HH4s.out.at_ 1
    have b2 := HH4s.out.at_ 2
    have b3 := HH4s.out.at_ 3
    have b4 := HH4s.out.at_ 4
    have b5 := HH4s.out.at_ 5
    have b6 := HH4s.out.at_ 6
    have b7 := HH4s.out.at_ 7
    simp at b0 b1 b2 b3 b4 b5 b6 b7
    have l0 : gw < w4s.heap.size := HH4s.out.here
    have fw : ∀ i, w4s.frozen? ⟨gw, i, none⟩ = false := HH4s.out.free
    go_upto_region 6 with fail
    obtain ⟨w4, e4⟩ : ∃ V, V = w4s.setCell ⟨gw, 7, none⟩ (.slice ao4 m4 c4) := ⟨_, rfl⟩
    have kb4 : But (fun b => b = gw) w4s w4 := by rw [e4]; exact (But.rfl_ (fun b => b = gw) _).put (p := ⟨gw, 7, none⟩) (.inl rfl) _
    have HB4 := hid (HB4s.out.but kb4 hne')
    have HH4 : Hid (Has w4 gw 49 #[.int .i64 tk, .int .i64 nb, .int .i64 nj, .int .i64 gx, .int .i64 gy, .slice ao2 m2 c2, .slice ao3 m3 c3, .slice ao4 m4 c4]) := by unfold Hid; rw [e4]; exact HH4s.out.put 7 _
    have HL4 := hid (HL4s.out.but kb4 hY.out)
    have KB4 := hid (KB4s.out.then_ kb4)
    have of4 : Hid (Offs (fun b => b = gw) ao4) := fun b off s e hb => by have := HNw4.out.fresh b off s e; have := hsz4.out; have hb : b = gw := hb; omega
    have NL44 := hid (HNw4.out.ls.but kb4 of4.out)
    have NL24 := hid (NL24s.out.but kb4 of2.out)
    have NL34 := hid (NL34s.out.but kb4 of3.out)
    rw [← e4]
    clear e4 kb4 b0 b1 b2 b3 b4 b5 b6 b7 l0 fw HB4s HH4s HL4s KB4s NL24s NL34s
    have a0 := HB4.out.at_ 0
    simp at a0
    have b0 := HH4.out.at_ 0
    have b1 := HH4.out.at_ 1
    have b2 := HH4.out.at_ 2
    have b3 := HH4.out.at_ 3
    have b4 := HH4.out.at_ 4
    have b5 := HH4.out.at_ 5
    have b6 := HH4.out.at_ 6
    have b7 := HH4.out.at_ 7
    simp at b0 b1 b2 b3 b4 b5 b6 b7
    have l0 : gw < w4.heap.size := HH4.out.here
    have l1 : g1 < w4.heap.size := HB4.out.here
    go_wp2_with fail
    go_ret
    refine .inr ⟨(HQ.out.1 (by simp)).1, rfl, KB4.out, ao4, c4, HNil4.out, ao2, ao3, c2, c3, ?_, ?_⟩
    · rw [HNw2.out.len, HNw3.out.len, HNw4.out.len]
      exact HH4.out
    · have nX : ∀ g, w.heap.size ≤ g → ¬ X g := fun g hg hx => by have := HXW.out g hx; omega
      have hL := HL4.out
      exact ⟨⟨NL24.out, NL34.out, NL44.out, fun b hb => hL.at_.sB b (List.mem_filter.1 hb).1, fun j hj => hL.at_.iJ j (List.mem_filter.1 hj).1, fun j hj => hL.at_.iC j (List.mem_filter.1 hj).1⟩, HNw2.out.slOk, HNw3.out.slOk, HNw4.out.slOk,
        fun _ b off s e => nX b (by have := HNw2.out.fresh b off s e; have := hsz2.out; omega), fun _ b off s e => nX b (by have := HNw3.out.fresh b off s e; have := hsz3.out; omega), fun _ b off s e => nX b (by have := HNw4.out.fresh b off s e; have := hsz4.out; omega),
        fun b hb hn => hL.offP b (List.mem_filter.1 hb).1 hn, fun b hb => hL.okP b (List.mem_filter.1 hb).1⟩
theorem removeBody_c {X : Nat → Prop} {w : World} {gw : Nat} {tk nb nj gx gy : Int} {B : List Bd} {J : List Jt} {C : List Ct} (id : Int) (hV : WVar X w gw tk nb nj gx gy B J C) (hXg : X gw) (hXw : ∀ b, X b → b < w.heap.size) (hmB : B.length ≤ 1073741824) (hmJ : J.length ≤ 1073741824) (hmC : C.length ≤ 1073741824) (hup : (B.map (·.id)).Pairwise (· < ·)) :
    Calls Tryz.prog 20 #[.pointer (some ⟨gw, 0, none⟩), .int .i64 id] w (RemovedB X w gw tk nb nj gx gy B J C id) := by
  obtain ⟨oc, cc, hO⟩ := hV.down
  refine (removeBody_o id hO hXg hXw hmB hmJ hmC hup).mono ?_
  rintro e v (h | ⟨h1, h2, h3, oc', cc', _, hv⟩)
  · exact .inl h
  · exact .inr ⟨h1, h2, h3, hv.up⟩
end Go.Proofs.YtfncelifflebbaaGreat.Fx

