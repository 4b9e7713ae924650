/- CoLa -/
import Derived.Test.YtgdcphmmehedoaaGreatCb20
set_option maxRecDepth 100000
set_option maxHeartbeats 64000000
/- Package codec: an order is read. -/
namespace Go.Proofs.YtgdcphmmehedoaaGreat.Fx
open Go.ChangeShapes Go.WideShapes Go.ChangeAt Go.RowKit
set_option linter.unusedVariables false
theorem But.row (w : World) (g : Nat) (cs : Array Value) : But (fun b => b = g) w (w.setRow g cs) :=
 ⟨rfl, rfl, rfl, by simp, fun b _ hb => setRow_other w g b _ hb, fun a => frozen_setRow _ _ _ a⟩
def OrAt (w w' : World) (x : Value) (d : Or) : Prop := ∃ ao c, x = orV { d with ao := ao, c := c } ∧ Sl w' ao d.n d.f ∧ (∀ b off q, ao = some ⟨b, off, q⟩ → w.heap.size ≤ b) ∧ ((ao = none ∧ d.n = 0 ∧ c = 0) ∨ ∃ a, ao = some a)
theorem OrAt.bare (w w' : World) (d : Or) (h0 : d.ao = none) (h1 : d.n = 0) (h2 : d.c = 0) : OrAt w w' (orV d) d :=
 ⟨none, 0, by rw [← h0, ← h2], fun hn => by omega, fun b off q e => (by cases e), .inl ⟨rfl, h1, rfl⟩⟩
theorem rNq_c {pb B m : Nat} {s : Rs} (hs : RsOk s) (hm : m ≤ 8) (h0 : 0 < m) : ∀ u, Rd u pb B s → B ≤ u.heap.size → Calls Tryz.prog 60 #[.pointer (some ⟨pb, 0, none⟩), .int .i64 (m : Nat)] u fun e u' => e = .returned (.int .i64 (dN m s).1) ∧ Rd u' pb B (dN m s).2 ∧ But (fun b => b = pb) u u' := fun u h _ => rN_c h hs hm h0
theorem rFq_c {pb B : Nat} {s : Rs} (hs : RsOk s) : ∀ u, Rd u pb B s → B ≤ u.heap.size → Calls Tryz.prog 73 #[.pointer (some ⟨pb, 0, none⟩)] u fun e u' => e = .returned (.int .i64 (dN 8 s).1) ∧ Rd u' pb B (dN 8 s).2 ∧ But (fun b => b = pb) u u' := fun u h _ => rF_c h hs
theorem rVq_c {pb B : Nat} {s : Rs} (hs : RsOk s) : ∀ u, Rd u pb B s → B ≤ u.heap.size → Calls Tryz.prog 61 #[.pointer (some ⟨pb, 0, none⟩)] u fun e u' => e = .returned (paV (dV s).1) ∧ Rd u' pb B (dV s).2 ∧ But (fun b => b = pb) u u' := fun u h hB => rV_c h hs hB
theorem rSq_c {pb B : Nat} {s : Rs} (hs : RsOk s) : ∀ u, Rd u pb B s → B ≤ u.heap.size → Calls Tryz.prog 74 #[rdV pb] u fun e u' => ∃ x, e = .returned x ∧ ShAt u u' x (dS s).1 ∧ Rd u' pb B (dS s).2 ∧ But (fun b => b = pb) u u' := fun u h hB => rshape_c h hs hB
theorem rorder0_c {pb B : Nat} {s : Rs} {w : World} {k : Int} (h : Rd w pb B s) (hs : RsOk s) (hB : B ≤ w.heap.size) (ek : (dN 1 s).1 = k) (h1 : k ≠ 1) (h2 : k ≠ 2) (h3 : k ≠ 3) (h4 : k ≠ 4) (h5 : k ≠ 5) (h6 : k ≠ 6) :
  Calls Tryz.prog 30 #[rdV pb] w fun e w' => ∃ x, e = .returned x ∧ OrAt w w' x (dO s).1 ∧ Rd w' pb B (dO s).2 ∧ But (fun b => b = pb) w w' := by
 have q1 : (k == 1) = false := by rw [beq_eq_false_iff_ne]; exact h1
 have q2 : (k == 2) = false := by rw [beq_eq_false_iff_ne]; exact h2
 have q3 : (k == 3) = false := by rw [beq_eq_false_iff_ne]; exact h3
 have q4 : (k == 4) = false := by rw [beq_eq_false_iff_ne]; exact h4
 have q5 : (k == 5) = false := by rw [beq_eq_false_iff_ne]; exact h5
 have q6 : (k == 6) = false := by rw [beq_eq_false_iff_ne]; exact h6
 have HN := hid (And.intro h1 (And.intro h2 (And.intro h3 (And.intro h4 (And.intro h5 h6)))))
 clear h1 h2 h3 h4 h5 h6
 have HB := hid hB
 have HP := hid h.1
 have HS := hid hs
 obtain ⟨s1, es1⟩ : ∃ z, (dN 1 s).2 = z := ⟨_, rfl⟩
 have HS1 := hid (dN_ok (m := 1) hs)
 rw [es1] at HS1
 have ES1 := hid es1
 have EK := hid ek
 obtain ⟨W, eW⟩ : ∃ W, W = (w.alloc (.cells #[.pointer (some ⟨pb, 0, none⟩)] 88)).alloc (.cells #[.int .i64 0, .int .i64 0, .int .i64 0, .int .i64 0, .int .i64 0, .int .i64 0, .int .i64 0, .int .i64 0, .int .i64 0, .int .i64 0, .int .i64 0, .int .i64 0, .int .i64 0, .int .i64 0, .slice none 0 0] 49) := ⟨_, rfl⟩
 have KA : Hid (Made w.heap.size w W) := by unfold Hid; rw [eW]; exact ((Made.rfl_ _ _).cells (Nat.le_refl _) _ _).cells (by simp) _ _
 obtain ⟨g1, eg1⟩ : ∃ g, w.heap.size = g := ⟨_, rfl⟩
 obtain ⟨g2, eg2⟩ : ∃ g, (w.alloc (.cells #[.pointer (some ⟨pb, 0, none⟩)] 88)).heap.size = g := ⟨_, rfl⟩
 have HG1 := hid eg1
 have HG2 : Hid (g2 = g1 + 1) := by unfold Hid; rw [← eg2, ← eg1]; simp
 have HH1 : Hid (Has W g1 88 #[.pointer (some ⟨pb, 0, none⟩)]) := by unfold Hid; rw [eW, ← eg1]; exact (has_new _ _ _).more _
 have HH2 : Hid (Has W g2 49 #[.int .i64 0, .int .i64 0, .int .i64 0, .int .i64 0, .int .i64 0, .int .i64 0, .int .i64 0, .int .i64 0, .int .i64 0, .int .i64 0, .int .i64 0, .int .i64 0, .int .i64 0, .int .i64 0, .slice none 0 0]) := by unfold Hid; rw [eW, ← eg2]; exact has_new _ _ _
 have H1 := hid (rN_c (m := 1) (h.kept KA.out) hs (by omega) (by omega))
 rw [ek, es1] at H1
 have p0 : W.cell? ⟨g1, 0, none⟩ = some (.pointer (some ⟨pb, 0, none⟩)) := HH1.out.at_ 0
 clear h hs hB ek es1
 go_enter Tryz.func30, Tryz.ntmps30
 go_upto_region 1 with fail
 first | rw [← eW] | (rw [eg1] at *; rw [← eW])
 clear eW
 try rw [eg2]
 clear eg2
 try rw [eg1]
 clear eg1
 go_wp2_with fail
 refine H1.out.mono ?_
 rintro e w1 ⟨rfl, hR1, hM1⟩
 have hp1 : ¬ g1 = pb := by have := HP.out; have := HB.out; have := HG1.out; omega
 have hp2 : ¬ g2 = pb := by have := HP.out; have := HB.out; have := HG1.out; have := HG2.out; omega
 have KB := hid ((Made.but KA.out : But (fun b => b = pb) w W).then_ hM1)
 have HHa := hid (HH1.out.but hM1 hp1)
 have HHb := hid (HH2.out.but hM1 hp2)
 have HR1 := hid hR1
 clear hR1 hM1 p0 HH1 HH2
 obtain ⟨W2, eW2⟩ : ∃ V, V = w1.alloc (.cells #[.int .i64 k, .int .i64 0, .int .i64 0, .int .i64 0, .int .i64 0, .int .i64 0, .int .i64 0, .int .i64 0, .int .i64 0, .int .i64 0, .int .i64 0, .int .i64 0, .int .i64 0, .int .i64 0, .slice none 0 0] 49) := ⟨_, rfl⟩
 have K2 : Hid (Made w1.heap.size w1 W2) := by unfold Hid; rw [eW2]; exact (Made.rfl_ _ _).cells (Nat.le_refl _) _ _
 obtain ⟨g3, eg3⟩ : ∃ g, w1.heap.size = g := ⟨_, rfl⟩
 have hl1 := HHa.out.here
 have hl2 := HHb.out.here
 have HH3 : Hid (Has W2 g3 49 #[.int .i64 k, .int .i64 0, .int .i64 0, .int .i64 0, .int .i64 0, .int .i64 0, .int .i64 0, .int .i64 0, .int .i64 0, .int .i64 0, .int .i64 0, .int .i64 0, .int .i64 0, .int .i64 0, .slice none 0 0]) := by unfold Hid; rw [eW2, ← eg3]; exact has_new _ _ _
 have HH1 : Hid (Has W2 g1 88 #[.pointer (some ⟨pb, 0, none⟩)]) := HHa.out.stays K2.out hl1
 have HH2 : Hid (Has W2 g2 49 #[.int .i64 0, .int .i64 0, .int .i64 0, .int .i64 0, .int .i64 0, .int .i64 0, .int .i64 0, .int .i64 0, .int .i64 0, .int .i64 0, .int .i64 0, .int .i64 0, .int .i64 0, .int .i64 0, .slice none 0 0]) := HHb.out.stays K2.out hl2
 have HR2 := hid (HR1.out.kept K2.out)
 have KC := hid (KB.out.via K2.out)
 have HLT : Hid (g1 < g3 ∧ g2 < g3) := by unfold Hid; omega
 have p0 : W2.cell? ⟨g1, 0, none⟩ = some (.pointer (some ⟨pb, 0, none⟩)) := HH1.out.at_ 0
 have d0 : W2.cell? ⟨g3, 0, none⟩ = some (.int .i64 k) := HH3.out.at_ 0
 have hp3 : ¬ g3 = pb := by have := HP.out; have := HB.out; have := HG1.out; have := HLT.out.1; omega
 have HBW : Hid (B ≤ W2.heap.size) := by unfold Hid; have := KC.out.size; have := HB.out; omega
 clear HHa HHb hl1 hl2 HR1
 go_upto_region 2 with fail
 rw [← eW2]
 clear eW2
 try rw [eg3]
 clear eg3
 have HD : Hid (dO s = ((⟨k, 0, 0, 0, 0, 0, 0, 0, 0, 0, 0, 0, 0, 0, none, 0, 0, fun _ => (0, 0)⟩ : Or), s1)) := by
  unfold Hid dO
  rw [EK.out, ES1.out, if_neg HN.out.1, if_neg (fun h => h.elim HN.out.2.1 HN.out.2.2.2.1), if_neg HN.out.2.2.1, if_neg HN.out.2.2.2.2.1, if_neg HN.out.2.2.2.2.2]
  rfl
 have HHr := hid HH2.out
 have HHs := hid HH3.out
 clear p0
 go_upto_region 14 with fail
 clear d0
 go_wp2_with (first
  | refine wpList_load_row rfl 49 (.tmp 3) rfl g3 rfl 49 _ (0, 0) _ HHs.out Tryz.underlying49 rfl (by kernel_rfl) ?_
  | refine wpList_store_row rfl 49 (.tmp 2) (.tmp 84) rfl g2 #[.int .i64 k, .int .i64 0, .int .i64 0, .int .i64 0, .int .i64 0, .int .i64 0, .int .i64 0, .int .i64 0, .int .i64 0, .int .i64 0, .int .i64 0, .int .i64 0, .int .i64 0, .int .i64 0, .slice none 0 0] rfl rfl 49 _ HHr.out (by kernel_rfl) rfl (by simp [Value.oneCell']) ?_)
 have hr := setRow_heap W2 g2 #[.int .i64 0, .int .i64 0, .int .i64 0, .int .i64 0, .int .i64 0, .int .i64 0, .int .i64 0, .int .i64 0, .int .i64 0, .int .i64 0, .int .i64 0, .int .i64 0, .int .i64 0, .int .i64 0, .slice none 0 0] #[.int .i64 k, .int .i64 0, .int .i64 0, .int .i64 0, .int .i64 0, .int .i64 0, .int .i64 0, .int .i64 0, .int .i64 0, .int .i64 0, .int .i64 0, .int .i64 0, .int .i64 0, .int .i64 0, .slice none 0 0] 49 (0, 0) HHr.out
 have kk : But (fun b => b = g2) W2 (W2.setRow g2 #[.int .i64 k, .int .i64 0, .int .i64 0, .int .i64 0, .int .i64 0, .int .i64 0, .int .i64 0, .int .i64 0, .int .i64 0, .int .i64 0, .int .i64 0, .int .i64 0, .int .i64 0, .int .i64 0, .slice none 0 0]) := But.row _ _ _
 refine bodyPost_ret (v := .agg #[.int .i64 k, .int .i64 0, .int .i64 0, .int .i64 0, .int .i64 0, .int .i64 0, .int .i64 0, .int .i64 0, .int .i64 0, .int .i64 0, .int .i64 0, .int .i64 0, .int .i64 0, .int .i64 0, .slice none 0 0]) (results_cell_row (p := 2) (ty := 49) rfl _ _ g2 49 _ (0, 0) _ rfl hr Tryz.underlying49 rfl (by kernel_rfl)) rfl ⟨_, rfl, ?_, ?_, ?_⟩
 ·rw [HD.out]
  exact OrAt.bare _ _ (⟨k, 0, 0, 0, 0, 0, 0, 0, 0, 0, 0, 0, 0, 0, none, 0, 0, fun _ => (0, 0)⟩ : Or) rfl rfl rfl
 ·rw [HD.out]
  exact HR2.out.but kk (fun b e => by have : b = g2 := e; have := HB.out; have := HG1.out; have := HG2.out; omega)
 ·exact KC.out.then_' kk (fun b e => .inr (by have : b = g2 := e; have := HG1.out; have := HG2.out; omega))
theorem rorder2_c {pb B : Nat} {s : Rs} {w : World} (h : Rd w pb B s) (hs : RsOk s) (hB : B ≤ w.heap.size) (ek : (dN 1 s).1 = 2) :
  Calls Tryz.prog 30 #[rdV pb] w fun e w' => ∃ x, e = .returned x ∧ OrAt w w' x (dO s).1 ∧ Rd w' pb B (dO s).2 ∧ But (fun b => b = pb) w w' := by
 have HB := hid hB
 have HP := hid h.1
 have HS := hid hs
 obtain ⟨s1, es1⟩ : ∃ z, (dN 1 s).2 = z := ⟨_, rfl⟩
 have HS1 := hid (dN_ok (m := 1) hs)
 rw [es1] at HS1
 have ES1 := hid es1
 have EK := hid ek
 obtain ⟨W, eW⟩ : ∃ W, W = (w.alloc (.cells #[.pointer (some ⟨pb, 0, none⟩)] 88)).alloc (.cells #[.int .i64 0, .int .i64 0, .int .i64 0, .int .i64 0, .int .i64 0, .int .i64 0, .int .i64 0, .int .i64 0, .int .i64 0, .int .i64 0, .int .i64 0, .int .i64 0, .int .i64 0, .int .i64 0, .slice none 0 0] 49) := ⟨_, rfl⟩
 have KA : Hid (Made w.heap.size w W) := by unfold Hid; rw [eW]; exact ((Made.rfl_ _ _).cells (Nat.le_refl _) _ _).cells (by simp) _ _
 obtain ⟨g1, eg1⟩ : ∃ g, w.heap.size = g := ⟨_, rfl⟩
 obtain ⟨g2, eg2⟩ : ∃ g, (w.alloc (.cells #[.pointer (some ⟨pb, 0, none⟩)] 88)).heap.size = g := ⟨_, rfl⟩
 have HG1 := hid eg1
 have HG2 : Hid (g2 = g1 + 1) := by unfold Hid; rw [← eg2, ← eg1]; simp
 have HH1 : Hid (Has W g1 88 #[.pointer (some ⟨pb, 0, none⟩)]) := by unfold Hid; rw [eW, ← eg1]; exact (has_new _ _ _).more _
 have HH2 : Hid (Has W g2 49 #[.int .i64 0, .int .i64 0, .int .i64 0, .int .i64 0, .int .i64 0, .int .i64 0, .int .i64 0, .int .i64 0, .int .i64 0, .int .i64 0, .int .i64 0, .int .i64 0, .int .i64 0, .int .i64 0, .slice none 0 0]) := by unfold Hid; rw [eW, ← eg2]; exact has_new _ _ _
 have H1 := hid (rN_c (m := 1) (h.kept KA.out) hs (by omega) (by omega))
 rw [ek, es1] at H1
 have p0 : W.cell? ⟨g1, 0, none⟩ = some (.pointer (some ⟨pb, 0, none⟩)) := HH1.out.at_ 0
 clear h hs hB ek es1
 go_enter Tryz.func30, Tryz.ntmps30
 go_upto_region 1 with fail
 first | rw [← eW] | (rw [eg1] at *; rw [← eW])
 clear eW
 try rw [eg2]
 clear eg2
 try rw [eg1]
 clear eg1
 go_wp2_with fail
 refine H1.out.mono ?_
 rintro e w1 ⟨rfl, hR1, hM1⟩
 have hp1 : ¬ g1 = pb := by have := HP.out; have := HB.out; have := HG1.out; omega
 have hp2 : ¬ g2 = pb := by have := HP.out; have := HB.out; have := HG1.out; have := HG2.out; omega
 have KB := hid ((Made.but KA.out : But (fun b => b = pb) w W).then_ hM1)
 have HHa := hid (HH1.out.but hM1 hp1)
 have HHb := hid (HH2.out.but hM1 hp2)
 have HR1 := hid hR1
 clear hR1 hM1 p0 HH1 HH2
 obtain ⟨W2, eW2⟩ : ∃ V, V = w1.alloc (.cells #[.int .i64 2, .int .i64 0, .int .i64 0, .int .i64 0, .int .i64 0, .int .i64 0, .int .i64 0, .int .i64 0, .int .i64 0, .int .i64 0, .int .i64 0, .int .i64 0, .int .i64 0, .int .i64 0, .slice none 0 0] 49) := ⟨_, rfl⟩
 have K2 : Hid (Made w1.heap.size w1 W2) := by unfold Hid; rw [eW2]; exact (Made.rfl_ _ _).cells (Nat.le_refl _) _ _
 obtain ⟨g3, eg3⟩ : ∃ g, w1.heap.size = g := ⟨_, rfl⟩
 have hl1 := HHa.out.here
 have hl2 := HHb.out.here
 have HH3 : Hid (Has W2 g3 49 #[.int .i64 2, .int .i64 0, .int .i64 0, .int .i64 0, .int .i64 0, .int .i64 0, .int .i64 0, .int .i64 0, .int .i64 0, .int .i64 0, .int .i64 0, .int .i64 0, .int .i64 0, .int .i64 0, .slice none 0 0]) := by unfold Hid; rw [eW2, ← eg3]; exact has_new _ _ _
 have HH1 : Hid (Has W2 g1 88 #[.pointer (some ⟨pb, 0, none⟩)]) := HHa.out.stays K2.out hl1
 have HH2 : Hid (Has W2 g2 49 #[.int .i64 0, .int .i64 0, .int .i64 0, .int .i64 0, .int .i64 0, .int .i64 0, .int .i64 0, .int .i64 0, .int .i64 0, .int .i64 0, .int .i64 0, .int .i64 0, .int .i64 0, .int .i64 0, .slice none 0 0]) := HHb.out.stays K2.out hl2
 have HR2 := hid (HR1.out.kept K2.out)
 have KC := hid (KB.out.via K2.out)
 have HLT : Hid (g1 < g3 ∧ g2 < g3) := by unfold Hid; omega
 have p0 : W2.cell? ⟨g1, 0, none⟩ = some (.pointer (some ⟨pb, 0, none⟩)) := HH1.out.at_ 0
 have d0 : W2.cell? ⟨g3, 0, none⟩ = some (.int .i64 2) := HH3.out.at_ 0
 have hp3 : ¬ g3 = pb := by have := HP.out; have := HB.out; have := HG1.out; have := HLT.out.1; omega
 have HBW : Hid (B ≤ W2.heap.size) := by unfold Hid; have := KC.out.size; have := HB.out; omega
 clear HHa HHb hl1 hl2 HR1
 go_upto_region 2 with fail
 rw [← eW2]
 clear eW2
 try rw [eg3]
 clear eg3
 have H3 := hid (rNq_c (pb := pb) (B := B) (m := 8) HS1.out (by omega) (by omega) _ HR2.out HBW.out)
 obtain ⟨id, eid⟩ : ∃ r, (dN 8 s1).1 = r := ⟨_, rfl⟩
 obtain ⟨s2, es2⟩ : ∃ r, (dN 8 s1).2 = r := ⟨_, rfl⟩
 have EID := hid eid
 have ES2 := hid es2
 rw [eid, es2] at H3
 clear eid es2
 go_wp2_with fail
 refine H3.out.mono ?_
 rintro e w3 ⟨rfl, hR3, hM3⟩
 have HR3 := hid hR3
 have HH4 := hid (HH3.out.but hM3 hp3)
 have HH5 := hid (HH2.out.but hM3 hp2)
 have K3 := hid (KC.out.then_ hM3)
 have q1 : w3.cell? ⟨g3, 1, none⟩ = some (.int .i64 0) := HH4.out.at_ 1
 have z1 := HH4.out.free 1
 have l4 := HH4.out.here
 clear hR3 hM3 p0 d0
 obtain ⟨V, eV⟩ : ∃ z, z = (w3.setCell ⟨g3, 1, none⟩ (.int .i64 id)) := ⟨_, rfl⟩
 have HHs : Hid (Has V g3 49 #[.int .i64 2, .int .i64 id, .int .i64 0, .int .i64 0, .int .i64 0, .int .i64 0, .int .i64 0, .int .i64 0, .int .i64 0, .int .i64 0, .int .i64 0, .int .i64 0, .int .i64 0, .int .i64 0, .slice none 0 0]) := by unfold Hid; rw [eV]; exact (HH4.out.put 1 _)
 have kv : But (fun b => b = g3) w3 V := by rw [eV]; exact ((But.rfl_ (fun b => b = g3) _).put (p := ⟨g3, 1, none⟩) (.inl rfl) _)
 have HHr : Hid (Has V g2 49 #[.int .i64 0, .int .i64 0, .int .i64 0, .int .i64 0, .int .i64 0, .int .i64 0, .int .i64 0, .int .i64 0, .int .i64 0, .int .i64 0, .int .i64 0, .int .i64 0, .int .i64 0, .int .i64 0, .slice none 0 0]) := HH5.out.but kv (by have := HLT.out.2; omega)
 have HR4 := hid (HR3.out.but kv (fun b e => by have : b = g3 := e; have := HB.out; have := HG1.out; have := HLT.out.1; omega))
 have K4 : Hid (But (fun b => b = pb) w V) := K3.out.then_' kv (fun b e => .inr (by have : b = g3 := e; have := HG1.out; have := HLT.out.1; omega))
 have HD : Hid (dO s = ((⟨2, id, 0, 0, 0, 0, 0, 0, 0, 0, 0, 0, 0, 0, none, 0, 0, fun _ => (0, 0)⟩ : Or), s2)) := by
  unfold Hid dO
  rw [EK.out, ES1.out, if_neg (show ¬ (2 : Int) = 1 by decide), if_pos (.inl rfl)]
  unfold dO2
  rw [EID.out, ES2.out]
  rfl
 clear kv
 go_upto_region 14 with fail
 rw [← eV]
 clear eV l4 q1 z1
 go_wp2_with (first
  | refine wpList_load_row rfl 49 (.tmp 3) rfl g3 rfl 49 _ (0, 0) _ HHs.out Tryz.underlying49 rfl (by kernel_rfl) ?_
  | refine wpList_store_row rfl 49 (.tmp 2) (.tmp 84) rfl g2 #[.int .i64 2, .int .i64 id, .int .i64 0, .int .i64 0, .int .i64 0, .int .i64 0, .int .i64 0, .int .i64 0, .int .i64 0, .int .i64 0, .int .i64 0, .int .i64 0, .int .i64 0, .int .i64 0, .slice none 0 0] rfl rfl 49 _ HHr.out (by kernel_rfl) rfl (by simp [Value.oneCell']) ?_)
 have hr := setRow_heap V g2 #[.int .i64 0, .int .i64 0, .int .i64 0, .int .i64 0, .int .i64 0, .int .i64 0, .int .i64 0, .int .i64 0, .int .i64 0, .int .i64 0, .int .i64 0, .int .i64 0, .int .i64 0, .int .i64 0, .slice none 0 0] #[.int .i64 2, .int .i64 id, .int .i64 0, .int .i64 0, .int .i64 0, .int .i64 0, .int .i64 0, .int .i64 0, .int .i64 0, .int .i64 0, .int .i64 0, .int .i64 0, .int .i64 0, .int .i64 0, .slice none 0 0] 49 (0, 0) HHr.out
 have kk : But (fun b => b = g2) V (V.setRow g2 #[.int .i64 2, .int .i64 id, .int .i64 0, .int .i64 0, .int .i64 0, .int .i64 0, .int .i64 0, .int .i64 0, .int .i64 0, .int .i64 0, .int .i64 0, .int .i64 0, .int .i64 0, .int .i64 0, .slice none 0 0]) := But.row _ _ _
 refine bodyPost_ret (v := .agg #[.int .i64 2, .int .i64 id, .int .i64 0, .int .i64 0, .int .i64 0, .int .i64 0, .int .i64 0, .int .i64 0, .int .i64 0, .int .i64 0, .int .i64 0, .int .i64 0, .int .i64 0, .int .i64 0, .slice none 0 0]) (results_cell_row (p := 2) (ty := 49) rfl _ _ g2 49 _ (0, 0) _ rfl hr Tryz.underlying49 rfl (by kernel_rfl)) rfl ⟨_, rfl, ?_, ?_, ?_⟩
 ·rw [HD.out]
  exact OrAt.bare _ _ (⟨2, id, 0, 0, 0, 0, 0, 0, 0, 0, 0, 0, 0, 0, none, 0, 0, fun _ => (0, 0)⟩ : Or) rfl rfl rfl
 ·rw [HD.out]
  exact HR4.out.but kk (fun b e => by have : b = g2 := e; have := HB.out; have := HG1.out; have := HG2.out; omega)
 ·exact K4.out.then_' kk (fun b e => .inr (by have : b = g2 := e; have := HG1.out; have := HG2.out; omega))
theorem rorder4_c {pb B : Nat} {s : Rs} {w : World} (h : Rd w pb B s) (hs : RsOk s) (hB : B ≤ w.heap.size) (ek : (dN 1 s).1 = 4) :
  Calls Tryz.prog 30 #[rdV pb] w fun e w' => ∃ x, e = .returned x ∧ OrAt w w' x (dO s).1 ∧ Rd w' pb B (dO s).2 ∧ But (fun b => b = pb) w w' := by
 have HB := hid hB
 have HP := hid h.1
 have HS := hid hs
 obtain ⟨s1, es1⟩ : ∃ z, (dN 1 s).2 = z := ⟨_, rfl⟩
 have HS1 := hid (dN_ok (m := 1) hs)
 rw [es1] at HS1
 have ES1 := hid es1
 have EK := hid ek
 obtain ⟨W, eW⟩ : ∃ W, W = (w.alloc (.cells #[.pointer (some ⟨pb, 0, none⟩)] 88)).alloc (.cells #[.int .i64 0, .int .i64 0, .int .i64 0, .int .i64 0, .int .i64 0, .int .i64 0, .int .i64 0, .int .i64 0, .int .i64 0, .int .i64 0, .int .i64 0, .int .i64 0, .int .i64 0, .int .i64 0, .slice none 0 0] 49) := ⟨_, rfl⟩
 have KA : Hid (Made w.heap.size w W) := by unfold Hid; rw [eW]; exact ((Made.rfl_ _ _).cells (Nat.le_refl _) _ _).cells (by simp) _ _
 obtain ⟨g1, eg1⟩ : ∃ g, w.heap.size = g := ⟨_, rfl⟩
 obtain ⟨g2, eg2⟩ : ∃ g, (w.alloc (.cells #[.pointer (some ⟨pb, 0, none⟩)] 88)).heap.size = g := ⟨_, rfl⟩
 have HG1 := hid eg1
 have HG2 : Hid (g2 = g1 + 1) := by unfold Hid; rw [← eg2, ← eg1]; simp
 have HH1 : Hid (Has W g1 88 #[.pointer (some ⟨pb, 0, none⟩)]) := by unfold Hid; rw [eW, ← eg1]; exact (has_new _ _ _).more _
 have HH2 : Hid (Has W g2 49 #[.int .i64 0, .int .i64 0, .int .i64 0, .int .i64 0, .int .i64 0, .int .i64 0, .int .i64 0, .int .i64 0, .int .i64 0, .int .i64 0, .int .i64 0, .int .i64 0, .int .i64 0, .int .i64 0, .slice none 0 0]) := by unfold Hid; rw [eW, ← eg2]; exact has_new _ _ _
 have H1 := hid (rN_c (m := 1) (h.kept KA.out) hs (by omega) (by omega))
 rw [ek, es1] at H1
 have p0 : W.cell? ⟨g1, 0, none⟩ = some (.pointer (some ⟨pb, 0, none⟩)) := HH1.out.at_ 0
 clear h hs hB ek es1
 go_enter Tryz.func30, Tryz.ntmps30
 go_upto_region 1 with fail
 first | rw [← eW] | (rw [eg1] at *; rw [← eW])
 clear eW
 try rw [eg2]
 clear eg2
 try rw [eg1]
 clear eg1
 go_wp2_with fail
 refine H1.out.mono ?_
 rintro e w1 ⟨rfl, hR1, hM1⟩
 have hp1 : ¬ g1 = pb := by have := HP.out; have := HB.out; have := HG1.out; omega
 have hp2 : ¬ g2 = pb := by have := HP.out; have := HB.out; have := HG1.out; have := HG2.out; omega
 have KB := hid ((Made.but KA.out : But (fun b => b = pb) w W).then_ hM1)
 have HHa := hid (HH1.out.but hM1 hp1)
 have HHb := hid (HH2.out.but hM1 hp2)
 have HR1 := hid hR1
 clear hR1 hM1 p0 HH1 HH2
 obtain ⟨W2, eW2⟩ : ∃ V, V = w1.alloc (.cells #[.int .i64 4, .int .i64 0, .int .i64 0, .int .i64 0, .int .i64 0, .int .i64 0, .int .i64 0, .int .i64 0, .int .i64 0, .int .i64 0, .int .i64 0, .int .i64 0, .int .i64 0, .int .i64 0, .slice none 0 0] 49) := ⟨_, rfl⟩
 have K2 : Hid (Made w1.heap.size w1 W2) := by unfold Hid; rw [eW2]; exact (Made.rfl_ _ _).cells (Nat.le_refl _) _ _
 obtain ⟨g3, eg3⟩ : ∃ g, w1.heap.size = g := ⟨_, rfl⟩
 have hl1 := HHa.out.here
 have hl2 := HHb.out.here
 have HH3 : Hid (Has W2 g3 49 #[.int .i64 4, .int .i64 0, .int .i64 0, .int .i64 0, .int .i64 0, .int .i64 0, .int .i64 0, .int .i64 0, .int .i64 0, .int .i64 0, .int .i64 0, .int .i64 0, .int .i64 0, .int .i64 0, .slice none 0 0]) := by unfold Hid; rw [eW2, ← eg3]; exact has_new _ _ _
 have HH1 : Hid (Has W2 g1 88 #[.pointer (some ⟨pb, 0, none⟩)]) := HHa.out.stays K2.out hl1
 have HH2 : Hid (Has W2 g2 49 #[.int .i64 0, .int .i64 0, .int .i64 0, .int .i64 0, .int .i64 0, .int .i64 0, .int .i64 0, .int .i64 0, .int .i64 0, .int .i64 0, .int .i64 0, .int .i64 0, .int .i64 0, .int .i64 0, .slice none 0 0]) := HHb.out.stays K2.out hl2
 have HR2 := hid (HR1.out.kept K2.out)
 have KC := hid (KB.out.via K2.out)
 have HLT : Hid (g1 < g3 ∧ g2 < g3) := by unfold Hid; omega
 have p0 : W2.cell? ⟨g1, 0, none⟩ = some (.pointer (some ⟨pb, 0, none⟩)) := HH1.out.at_ 0
 have d0 : W2.cell? ⟨g3, 0, none⟩ = some (.int .i64 4) := HH3.out.at_ 0
 have hp3 : ¬ g3 = pb := by have := HP.out; have := HB.out; have := HG1.out; have := HLT.out.1; omega
 have HBW : Hid (B ≤ W2.heap.size) := by unfold Hid; have := KC.out.size; have := HB.out; omega
 clear HHa HHb hl1 hl2 HR1
 go_upto_region 2 with fail
 rw [← eW2]
 clear eW2
 try rw [eg3]
 clear eg3
 have H3 := hid (rNq_c (pb := pb) (B := B) (m := 8) HS1.out (by omega) (by omega) _ HR2.out HBW.out)
 obtain ⟨id, eid⟩ : ∃ r, (dN 8 s1).1 = r := ⟨_, rfl⟩
 obtain ⟨s2, es2⟩ : ∃ r, (dN 8 s1).2 = r := ⟨_, rfl⟩
 have EID := hid eid
 have ES2 := hid es2
 rw [eid, es2] at H3
 clear eid es2
 go_wp2_with fail
 refine H3.out.mono ?_
 rintro e w3 ⟨rfl, hR3, hM3⟩
 have HR3 := hid hR3
 have HH4 := hid (HH3.out.but hM3 hp3)
 have HH5 := hid (HH2.out.but hM3 hp2)
 have K3 := hid (KC.out.then_ hM3)
 have q1 : w3.cell? ⟨g3, 1, none⟩ = some (.int .i64 0) := HH4.out.at_ 1
 have z1 := HH4.out.free 1
 have l4 := HH4.out.here
 clear hR3 hM3 p0 d0
 obtain ⟨V, eV⟩ : ∃ z, z = (w3.setCell ⟨g3, 1, none⟩ (.int .i64 id)) := ⟨_, rfl⟩
 have HHs : Hid (Has V g3 49 #[.int .i64 4, .int .i64 id, .int .i64 0, .int .i64 0, .int .i64 0, .int .i64 0, .int .i64 0, .int .i64 0, .int .i64 0, .int .i64 0, .int .i64 0, .int .i64 0, .int .i64 0, .int .i64 0, .slice none 0 0]) := by unfold Hid; rw [eV]; exact (HH4.out.put 1 _)
 have kv : But (fun b => b = g3) w3 V := by rw [eV]; exact ((But.rfl_ (fun b => b = g3) _).put (p := ⟨g3, 1, none⟩) (.inl rfl) _)
 have HHr : Hid (Has V g2 49 #[.int .i64 0, .int .i64 0, .int .i64 0, .int .i64 0, .int .i64 0, .int .i64 0, .int .i64 0, .int .i64 0, .int .i64 0, .int .i64 0, .int .i64 0, .int .i64 0, .int .i64 0, .int .i64 0, .slice none 0 0]) := HH5.out.but kv (by have := HLT.out.2; omega)
 have HR4 := hid (HR3.out.but kv (fun b e => by have : b = g3 := e; have := HB.out; have := HG1.out; have := HLT.out.1; omega))
 have K4 : Hid (But (fun b => b = pb) w V) := K3.out.then_' kv (fun b e => .inr (by have : b = g3 := e; have := HG1.out; have := HLT.out.1; omega))
 have HD : Hid (dO s = ((⟨4, id, 0, 0, 0, 0, 0, 0, 0, 0, 0, 0, 0, 0, none, 0, 0, fun _ => (0, 0)⟩ : Or), s2)) := by
  unfold Hid dO
  rw [EK.out, ES1.out, if_neg (show ¬ (4 : Int) = 1 by decide), if_pos (.inr rfl)]
  unfold dO2
  rw [EID.out, ES2.out]
  rfl
 clear kv
 go_upto_region 14 with fail
 rw [← eV]
 clear eV l4 q1 z1
 go_wp2_with (first
  | refine wpList_load_row rfl 49 (.tmp 3) rfl g3 rfl 49 _ (0, 0) _ HHs.out Tryz.underlying49 rfl (by kernel_rfl) ?_
  | refine wpList_store_row rfl 49 (.tmp 2) (.tmp 84) rfl g2 #[.int .i64 4, .int .i64 id, .int .i64 0, .int .i64 0, .int .i64 0, .int .i64 0, .int .i64 0, .int .i64 0, .int .i64 0, .int .i64 0, .int .i64 0, .int .i64 0, .int .i64 0, .int .i64 0, .slice none 0 0] rfl rfl 49 _ HHr.out (by kernel_rfl) rfl (by simp [Value.oneCell']) ?_)
 have hr := setRow_heap V g2 #[.int .i64 0, .int .i64 0, .int .i64 0, .int .i64 0, .int .i64 0, .int .i64 0, .int .i64 0, .int .i64 0, .int .i64 0, .int .i64 0, .int .i64 0, .int .i64 0, .int .i64 0, .int .i64 0, .slice none 0 0] #[.int .i64 4, .int .i64 id, .int .i64 0, .int .i64 0, .int .i64 0, .int .i64 0, .int .i64 0, .int .i64 0, .int .i64 0, .int .i64 0, .int .i64 0, .int .i64 0, .int .i64 0, .int .i64 0, .slice none 0 0] 49 (0, 0) HHr.out
 have kk : But (fun b => b = g2) V (V.setRow g2 #[.int .i64 4, .int .i64 id, .int .i64 0, .int .i64 0, .int .i64 0, .int .i64 0, .int .i64 0, .int .i64 0, .int .i64 0, .int .i64 0, .int .i64 0, .int .i64 0, .int .i64 0, .int .i64 0, .slice none 0 0]) := But.row _ _ _
 refine bodyPost_ret (v := .agg #[.int .i64 4, .int .i64 id, .int .i64 0, .int .i64 0, .int .i64 0, .int .i64 0, .int .i64 0, .int .i64 0, .int .i64 0, .int .i64 0, .int .i64 0, .int .i64 0, .int .i64 0, .int .i64 0, .slice none 0 0]) (results_cell_row (p := 2) (ty := 49) rfl _ _ g2 49 _ (0, 0) _ rfl hr Tryz.underlying49 rfl (by kernel_rfl)) rfl ⟨_, rfl, ?_, ?_, ?_⟩
 ·rw [HD.out]
  exact OrAt.bare _ _ (⟨4, id, 0, 0, 0, 0, 0, 0, 0, 0, 0, 0, 0, 0, none, 0, 0, fun _ => (0, 0)⟩ : Or) rfl rfl rfl
 ·rw [HD.out]
  exact HR4.out.but kk (fun b e => by have : b = g2 := e; have := HB.out; have := HG1.out; have := HG2.out; omega)
 ·exact K4.out.then_' kk (fun b e => .inr (by have : b = g2 := e; have := HG1.out; have := HG2.out; omega))
theorem rorder6_c {pb B : Nat} {s : Rs} {w : World} (h : Rd w pb B s) (hs : RsOk s) (hB : B ≤ w.heap.size) (ek : (dN 1 s).1 = 6) :
  Calls Tryz.prog 30 #[rdV pb] w fun e w' => ∃ x, e = .returned x ∧ OrAt w w' x (dO s).1 ∧ Rd w' pb B (dO s).2 ∧ But (fun b => b = pb) w w' := by
 have HB := hid hB
 have HP := hid h.1
 have HS := hid hs
 obtain ⟨s1, es1⟩ : ∃ z, (dN 1 s).2 = z := ⟨_, rfl⟩
 have HS1 := hid (dN_ok (m := 1) hs)
 rw [es1] at HS1
 have ES1 := hid es1
 have EK := hid ek
 obtain ⟨W, eW⟩ : ∃ W, W = (w.alloc (.cells #[.pointer (some ⟨pb, 0, none⟩)] 88)).alloc (.cells #[.int .i64 0, .int .i64 0, .int .i64 0, .int .i64 0, .int .i64 0, .int .i64 0, .int .i64 0, .int .i64 0, .int .i64 0, .int .i64 0, .int .i64 0, .int .i64 0, .int .i64 0, .int .i64 0, .slice none 0 0] 49) := ⟨_, rfl⟩
 have KA : Hid (Made w.heap.size w W) := by unfold Hid; rw [eW]; exact ((Made.rfl_ _ _).cells (Nat.le_refl _) _ _).cells (by simp) _ _
 obtain ⟨g1, eg1⟩ : ∃ g, w.heap.size = g := ⟨_, rfl⟩
 obtain ⟨g2, eg2⟩ : ∃ g, (w.alloc (.cells #[.pointer (some ⟨pb, 0, none⟩)] 88)).heap.size = g := ⟨_, rfl⟩
 have HG1 := hid eg1
 have HG2 : Hid (g2 = g1 + 1) := by unfold Hid; rw [← eg2, ← eg1]; simp
 have HH1 : Hid (Has W g1 88 #[.pointer (some ⟨pb, 0, none⟩)]) := by unfold Hid; rw [eW, ← eg1]; exact (has_new _ _ _).more _
 have HH2 : Hid (Has W g2 49 #[.int .i64 0, .int .i64 0, .int .i64 0, .int .i64 0, .int .i64 0, .int .i64 0, .int .i64 0, .int .i64 0, .int .i64 0, .int .i64 0, .int .i64 0, .int .i64 0, .int .i64 0, .int .i64 0, .slice none 0 0]) := by unfold Hid; rw [eW, ← eg2]; exact has_new _ _ _
 have H1 := hid (rN_c (m := 1) (h.kept KA.out) hs (by omega) (by omega))
 rw [ek, es1] at H1
 have p0 : W.cell? ⟨g1, 0, none⟩ = some (.pointer (some ⟨pb, 0, none⟩)) := HH1.out.at_ 0
 clear h hs hB ek es1
 go_enter Tryz.func30, Tryz.ntmps30
 go_upto_region 1 with fail
 first | rw [← eW] | (rw [eg1] at *; rw [← eW])
 clear eW
 try rw [eg2]
 clear eg2
 try rw [eg1]
 clear eg1
 go_wp2_with fail
 refine H1.out.mono ?_
 rintro e w1 ⟨rfl, hR1, hM1⟩
 have hp1 : ¬ g1 = pb := by have := HP.out; have := HB.out; have := HG1.out; omega
 have hp2 : ¬ g2 = pb := by have := HP.out; have := HB.out; have := HG1.out; have := HG2.out; omega
 have KB := hid ((Made.but KA.out : But (fun b => b = pb) w W).then_ hM1)
 have HHa := hid (HH1.out.but hM1 hp1)
 have HHb := hid (HH2.out.but hM1 hp2)
 have HR1 := hid hR1
 clear hR1 hM1 p0 HH1 HH2
 obtain ⟨W2, eW2⟩ : ∃ V, V = w1.alloc (.cells #[.int .i64 6, .int .i64 0, .int .i64 0, .int .i64 0, .int .i64 0, .int .i64 0, .int .i64 0, .int .i64 0, .int .i64 0, .int .i64 0, .int .i64 0, .int .i64 0, .int .i64 0, .int .i64 0, .slice none 0 0] 49) := ⟨_, rfl⟩
 have K2 : Hid (Made w1.heap.size w1 W2) := by unfold Hid; rw [eW2]; exact (Made.rfl_ _ _).cells (Nat.le_refl _) _ _
 obtain ⟨g3, eg3⟩ : ∃ g, w1.heap.size = g := ⟨_, rfl⟩
 have hl1 := HHa.out.here
 have hl2 := HHb.out.here
 have HH3 : Hid (Has W2 g3 49 #[.int .i64 6, .int .i64 0, .int .i64 0, .int .i64 0, .int .i64 0, .int .i64 0, .int .i64 0, .int .i64 0, .int .i64 0, .int .i64 0, .int .i64 0, .int .i64 0, .int .i64 0, .int .i64 0, .slice none 0 0]) := by unfold Hid; rw [eW2, ← eg3]; exact has_new _ _ _
 have HH1 : Hid (Has W2 g1 88 #[.pointer (some ⟨pb, 0, none⟩)]) := HHa.out.stays K2.out hl1
 have HH2 : Hid (Has W2 g2 49 #[.int .i64 0, .int .i64 0, .int .i64 0, .int .i64 0, .int .i64 0, .int .i64 0, .int .i64 0, .int .i64 0, .int .i64 0, .int .i64 0, .int .i64 0, .int .i64 0, .int .i64 0, .int .i64 0, .slice none 0 0]) := HHb.out.stays K2.out hl2
 have HR2 := hid (HR1.out.kept K2.out)
 have KC := hid (KB.out.via K2.out)
 have HLT : Hid (g1 < g3 ∧ g2 < g3) := by unfold Hid; omega
 have p0 : W2.cell? ⟨g1, 0, none⟩ = some (.pointer (some ⟨pb, 0, none⟩)) := HH1.out.at_ 0
 have d0 : W2.cell? ⟨g3, 0, none⟩ = some (.int .i64 6) := HH3.out.at_ 0
 have hp3 : ¬ g3 = pb := by have := HP.out; have := HB.out; have := HG1.out; have := HLT.out.1; omega
 have HBW : Hid (B ≤ W2.heap.size) := by unfold Hid; have := KC.out.size; have := HB.out; omega
 clear HHa HHb hl1 hl2 HR1
 go_upto_region 2 with fail
 rw [← eW2]
 clear eW2
 try rw [eg3]
 clear eg3
 have H3 := hid (rVq_c (pb := pb) (B := B) HS1.out _ HR2.out HBW.out)
 obtain ⟨p, eid⟩ : ∃ r, (dV s1).1 = r := ⟨_, rfl⟩
 obtain ⟨s2, es2⟩ : ∃ r, (dV s1).2 = r := ⟨_, rfl⟩
 have EID := hid eid
 have ES2 := hid es2
 rw [eid, es2] at H3
 clear eid es2
 obtain ⟨vx, vy⟩ := p
 go_wp2_with fail
 refine H3.out.mono ?_
 rintro e w3 ⟨rfl, hR3, hM3⟩
 have HR3 := hid hR3
 have HH4 := hid (HH3.out.but hM3 hp3)
 have HH5 := hid (HH2.out.but hM3 hp2)
 have K3 := hid (KC.out.then_ hM3)
 have q6 : w3.cell? ⟨g3, 6, none⟩ = some (.int .i64 0) := HH4.out.at_ 6
 have z6 := HH4.out.free 6
 have q7 : w3.cell? ⟨g3, 7, none⟩ = some (.int .i64 0) := HH4.out.at_ 7
 have z7 := HH4.out.free 7
 have l4 := HH4.out.here
 clear hR3 hM3 p0 d0
 obtain ⟨V, eV⟩ : ∃ z, z = ((w3.setCell ⟨g3, 6, none⟩ (.int .i64 vx)).setCell ⟨g3, 7, none⟩ (.int .i64 vy)) := ⟨_, rfl⟩
 have HHs : Hid (Has V g3 49 #[.int .i64 6, .int .i64 0, .int .i64 0, .int .i64 0, .int .i64 0, .int .i64 0, .int .i64 vx, .int .i64 vy, .int .i64 0, .int .i64 0, .int .i64 0, .int .i64 0, .int .i64 0, .int .i64 0, .slice none 0 0]) := by unfold Hid; rw [eV]; exact ((HH4.out.put 6 _).put 7 _)
 have kv : But (fun b => b = g3) w3 V := by rw [eV]; exact (((But.rfl_ (fun b => b = g3) _).put (p := ⟨g3, 6, none⟩) (.inl rfl) _).put (p := ⟨g3, 7, none⟩) (.inl rfl) _)
 have HHr : Hid (Has V g2 49 #[.int .i64 0, .int .i64 0, .int .i64 0, .int .i64 0, .int .i64 0, .int .i64 0, .int .i64 0, .int .i64 0, .int .i64 0, .int .i64 0, .int .i64 0, .int .i64 0, .int .i64 0, .int .i64 0, .slice none 0 0]) := HH5.out.but kv (by have := HLT.out.2; omega)
 have HR4 := hid (HR3.out.but kv (fun b e => by have : b = g3 := e; have := HB.out; have := HG1.out; have := HLT.out.1; omega))
 have K4 : Hid (But (fun b => b = pb) w V) := K3.out.then_' kv (fun b e => .inr (by have : b = g3 := e; have := HG1.out; have := HLT.out.1; omega))
 have HD : Hid (dO s = ((⟨6, 0, 0, 0, 0, 0, vx, vy, 0, 0, 0, 0, 0, 0, none, 0, 0, fun _ => (0, 0)⟩ : Or), s2)) := by
  unfold Hid dO
  rw [EK.out, ES1.out, if_neg (show ¬ (6 : Int) = 1 by decide), if_neg (show ¬ ((6 : Int) = 2 ∨ (6 : Int) = 4) by decide), if_neg (show ¬ (6 : Int) = 3 by decide), if_neg (show ¬ (6 : Int) = 5 by decide), if_pos rfl]
  unfold dO6
  rw [EID.out, ES2.out]
  rfl
 clear kv
 go_upto_region 14 with fail
 rw [← eV]
 clear eV l4 q6 z6 q7 z7
 go_wp2_with (first
  | refine wpList_load_row rfl 49 (.tmp 3) rfl g3 rfl 49 _ (0, 0) _ HHs.out Tryz.underlying49 rfl (by kernel_rfl) ?_
  | refine wpList_store_row rfl 49 (.tmp 2) (.tmp 84) rfl g2 #[.int .i64 6, .int .i64 0, .int .i64 0, .int .i64 0, .int .i64 0, .int .i64 0, .int .i64 vx, .int .i64 vy, .int .i64 0, .int .i64 0, .int .i64 0, .int .i64 0, .int .i64 0, .int .i64 0, .slice none 0 0] rfl rfl 49 _ HHr.out (by kernel_rfl) rfl (by simp [Value.oneCell']) ?_)
 have hr := setRow_heap V g2 #[.int .i64 0, .int .i64 0, .int .i64 0, .int .i64 0, .int .i64 0, .int .i64 0, .int .i64 0, .int .i64 0, .int .i64 0, .int .i64 0, .int .i64 0, .int .i64 0, .int .i64 0, .int .i64 0, .slice none 0 0] #[.int .i64 6, .int .i64 0, .int .i64 0, .int .i64 0, .int .i64 0, .int .i64 0, .int .i64 vx, .int .i64 vy, .int .i64 0, .int .i64 0, .int .i64 0, .int .i64 0, .int .i64 0, .int .i64 0, .slice none 0 0] 49 (0, 0) HHr.out
 have kk : But (fun b => b = g2) V (V.setRow g2 #[.int .i64 6, .int .i64 0, .int .i64 0, .int .i64 0, .int .i64 0, .int .i64 0, .int .i64 vx, .int .i64 vy, .int .i64 0, .int .i64 0, .int .i64 0, .int .i64 0, .int .i64 0, .int .i64 0, .slice none 0 0]) := But.row _ _ _
 refine bodyPost_ret (v := .agg #[.int .i64 6, .int .i64 0, .int .i64 0, .int .i64 0, .int .i64 0, .int .i64 0, .int .i64 vx, .int .i64 vy, .int .i64 0, .int .i64 0, .int .i64 0, .int .i64 0, .int .i64 0, .int .i64 0, .slice none 0 0]) (results_cell_row (p := 2) (ty := 49) rfl _ _ g2 49 _ (0, 0) _ rfl hr Tryz.underlying49 rfl (by kernel_rfl)) rfl ⟨_, rfl, ?_, ?_, ?_⟩
 ·rw [HD.out]
  exact OrAt.bare _ _ (⟨6, 0, 0, 0, 0, 0, vx, vy, 0, 0, 0, 0, 0, 0, none, 0, 0, fun _ => (0, 0)⟩ : Or) rfl rfl rfl
 ·rw [HD.out]
  exact HR4.out.but kk (fun b e => by have : b = g2 := e; have := HB.out; have := HG1.out; have := HG2.out; omega)
 ·exact K4.out.then_' kk (fun b e => .inr (by have : b = g2 := e; have := HG1.out; have := HG2.out; omega))
theorem rorder5_c {pb B : Nat} {s : Rs} {w : World} (h : Rd w pb B s) (hs : RsOk s) (hB : B ≤ w.heap.size) (ek : (dN 1 s).1 = 5) :
  Calls Tryz.prog 30 #[rdV pb] w fun e w' => ∃ x, e = .returned x ∧ OrAt w w' x (dO s).1 ∧ Rd w' pb B (dO s).2 ∧ But (fun b => b = pb) w w' := by
 have HB := hid hB
 have HP := hid h.1
 have HS := hid hs
 obtain ⟨s1, es1⟩ : ∃ z, (dN 1 s).2 = z := ⟨_, rfl⟩
 have HS1 := hid (dN_ok (m := 1) hs)
 rw [es1] at HS1
 have ES1 := hid es1
 have EK := hid ek
 obtain ⟨W, eW⟩ : ∃ W, W = (w.alloc (.cells #[.pointer (some ⟨pb, 0, none⟩)] 88)).alloc (.cells #[.int .i64 0, .int .i64 0, .int .i64 0, .int .i64 0, .int .i64 0, .int .i64 0, .int .i64 0, .int .i64 0, .int .i64 0, .int .i64 0, .int .i64 0, .int .i64 0, .int .i64 0, .int .i64 0, .slice none 0 0] 49) := ⟨_, rfl⟩
 have KA : Hid (Made w.heap.size w W) := by unfold Hid; rw [eW]; exact ((Made.rfl_ _ _).cells (Nat.le_refl _) _ _).cells (by simp) _ _
 obtain ⟨g1, eg1⟩ : ∃ g, w.heap.size = g := ⟨_, rfl⟩
 obtain ⟨g2, eg2⟩ : ∃ g, (w.alloc (.cells #[.pointer (some ⟨pb, 0, none⟩)] 88)).heap.size = g := ⟨_, rfl⟩
 have HG1 := hid eg1
 have HG2 : Hid (g2 = g1 + 1) := by unfold Hid; rw [← eg2, ← eg1]; simp
 have HH1 : Hid (Has W g1 88 #[.pointer (some ⟨pb, 0, none⟩)]) := by unfold Hid; rw [eW, ← eg1]; exact (has_new _ _ _).more _
 have HH2 : Hid (Has W g2 49 #[.int .i64 0, .int .i64 0, .int .i64 0, .int .i64 0, .int .i64 0, .int .i64 0, .int .i64 0, .int .i64 0, .int .i64 0, .int .i64 0, .int .i64 0, .int .i64 0, .int .i64 0, .int .i64 0, .slice none 0 0]) := by unfold Hid; rw [eW, ← eg2]; exact has_new _ _ _
 have H1 := hid (rN_c (m := 1) (h.kept KA.out) hs (by omega) (by omega))
 rw [ek, es1] at H1
 have p0 : W.cell? ⟨g1, 0, none⟩ = some (.pointer (some ⟨pb, 0, none⟩)) := HH1.out.at_ 0
 clear h hs hB ek es1
 go_enter Tryz.func30, Tryz.ntmps30
 go_upto_region 1 with fail
 first | rw [← eW] | (rw [eg1] at *; rw [← eW])
 clear eW
 try rw [eg2]
 clear eg2
 try rw [eg1]
 clear eg1
 go_wp2_with fail
 refine H1.out.mono ?_
 rintro e w1 ⟨rfl, hR1, hM1⟩
 have hp1 : ¬ g1 = pb := by have := HP.out; have := HB.out; have := HG1.out; omega
 have hp2 : ¬ g2 = pb := by have := HP.out; have := HB.out; have := HG1.out; have := HG2.out; omega
 have KB := hid ((Made.but KA.out : But (fun b => b = pb) w W).then_ hM1)
 have HHa := hid (HH1.out.but hM1 hp1)
 have HHb := hid (HH2.out.but hM1 hp2)
 have HR1 := hid hR1
 clear hR1 hM1 p0 HH1 HH2
 obtain ⟨W2, eW2⟩ : ∃ V, V = w1.alloc (.cells #[.int .i64 5, .int .i64 0, .int .i64 0, .int .i64 0, .int .i64 0, .int .i64 0, .int .i64 0, .int .i64 0, .int .i64 0, .int .i64 0, .int .i64 0, .int .i64 0, .int .i64 0, .int .i64 0, .slice none 0 0] 49) := ⟨_, rfl⟩
 have K2 : Hid (Made w1.heap.size w1 W2) := by unfold Hid; rw [eW2]; exact (Made.rfl_ _ _).cells (Nat.le_refl _) _ _
 obtain ⟨g3, eg3⟩ : ∃ g, w1.heap.size = g := ⟨_, rfl⟩
 have hl1 := HHa.out.here
 have hl2 := HHb.out.here
 have HH3 : Hid (Has W2 g3 49 #[.int .i64 5, .int .i64 0, .int .i64 0, .int .i64 0, .int .i64 0, .int .i64 0, .int .i64 0, .int .i64 0, .int .i64 0, .int .i64 0, .int .i64 0, .int .i64 0, .int .i64 0, .int .i64 0, .slice none 0 0]) := by unfold Hid; rw [eW2, ← eg3]; exact has_new _ _ _
 have HH1 : Hid (Has W2 g1 88 #[.pointer (some ⟨pb, 0, none⟩)]) := HHa.out.stays K2.out hl1
 have HH2 : Hid (Has W2 g2 49 #[.int .i64 0, .int .i64 0, .int .i64 0, .int .i64 0, .int .i64 0, .int .i64 0, .int .i64 0, .int .i64 0, .int .i64 0, .int .i64 0, .int .i64 0, .int .i64 0, .int .i64 0, .int .i64 0, .slice none 0 0]) := HHb.out.stays K2.out hl2
 have HR2 := hid (HR1.out.kept K2.out)
 have KC := hid (KB.out.via K2.out)
 have HLT : Hid (g1 < g3 ∧ g2 < g3) := by unfold Hid; omega
 have p0 : W2.cell? ⟨g1, 0, none⟩ = some (.pointer (some ⟨pb, 0, none⟩)) := HH1.out.at_ 0
 have d0 : W2.cell? ⟨g3, 0, none⟩ = some (.int .i64 5) := HH3.out.at_ 0
 have hp3 : ¬ g3 = pb := by have := HP.out; have := HB.out; have := HG1.out; have := HLT.out.1; omega
 have HBW : Hid (B ≤ W2.heap.size) := by unfold Hid; have := KC.out.size; have := HB.out; omega
 clear HHa HHb hl1 hl2 HR1
 go_upto_region 2 with fail
 rw [← eW2]
 clear eW2
 try rw [eg3]
 clear eg3
 have HC0 := hid (rNq_c (m := 8) (pb := pb) (B := B) HS1.out (by omega) (by omega))
 obtain ⟨y0, ey0⟩ : ∃ r, (dN 8 s1).1 = r := ⟨_, rfl⟩
 obtain ⟨s2, es0⟩ : ∃ r, (dN 8 s1).2 = r := ⟨_, rfl⟩
 have HS2 := hid (dN_ok (m := 8) HS1.out)
 rw [es0] at HS2
 rw [ey0, es0] at HC0
 have EY0 := hid ey0
 have EZ0 := hid es0
 clear ey0 es0
 have HC1 := hid (rVq_c (pb := pb) (B := B) HS2.out)
 obtain ⟨y1, ey1⟩ : ∃ r, (dV s2).1 = r := ⟨_, rfl⟩
 obtain ⟨s3, es1⟩ : ∃ r, (dV s2).2 = r := ⟨_, rfl⟩
 have HS3 := hid (dV_ok HS2.out)
 rw [es1] at HS3
 rw [ey1, es1] at HC1
 have EY1 := hid ey1
 have EZ1 := hid es1
 clear ey1 es1
 obtain ⟨vx, vy⟩ := y1
 have HC2 := hid (rFq_c (pb := pb) (B := B) HS3.out)
 obtain ⟨y2, ey2⟩ : ∃ r, (dN 8 s3).1 = r := ⟨_, rfl⟩
 obtain ⟨s4, es2⟩ : ∃ r, (dN 8 s3).2 = r := ⟨_, rfl⟩
 have HS4 := hid (dN_ok (m := 8) HS3.out)
 rw [es2] at HS4
 rw [ey2, es2] at HC2
 have EY2 := hid ey2
 have EZ2 := hid es2
 clear ey2 es2
 go_upto_region 11 with fail
 refine RF.reg_flow (fun s G u => Rd u pb B ([s1, s2, s3, s4].getD (s 0) none) ∧ But (fun b => b = pb ∨ b = g3) W2 u ∧ Has u g3 49 (([#[.int .i64 5, .int .i64 0, .int .i64 0, .int .i64 0, .int .i64 0, .int .i64 0, .int .i64 0, .int .i64 0, .int .i64 0, .int .i64 0, .int .i64 0, .int .i64 0, .int .i64 0, .int .i64 0, .slice none 0 0], (#[.int .i64 5, .int .i64 0, .int .i64 0, .int .i64 0, .int .i64 0, .int .i64 0, .int .i64 0, .int .i64 0, .int .i64 0, .int .i64 0, .int .i64 0, .int .i64 0, .int .i64 0, .int .i64 0, .slice none 0 0].setIfInBounds 1 (.int .i64 y0)), (((#[.int .i64 5, .int .i64 0, .int .i64 0, .int .i64 0, .int .i64 0, .int .i64 0, .int .i64 0, .int .i64 0, .int .i64 0, .int .i64 0, .int .i64 0, .int .i64 0, .int .i64 0, .int .i64 0, .slice none 0 0].setIfInBounds 1 (.int .i64 y0)).setIfInBounds 6 (.int .i64 vx)).setIfInBounds 7 (.int .i64 vy)), ((((#[.int .i64 5, .int .i64 0, .int .i64 0, .int .i64 0, .int .i64 0, .int .i64 0, .int .i64 0, .int .i64 0, .int .i64 0, .int .i64 0, .int .i64 0, .int .i64 0, .int .i64 0, .int .i64 0, .slice none 0 0].setIfInBounds 1 (.int .i64 y0)).setIfInBounds 6 (.int .i64 vx)).setIfInBounds 7 (.int .i64 vy)).setIfInBounds 9 (.int .i64 y2))] : List (Array Value)).getD (s 1) #[])) [[2, 5, 8], [10, 12, 14]] [] [0, 1, 3, 4, 6, 7, 9, 11, 13] [(68, .int .i64 y0), (71, paV (vx, vy)), (74, .int .i64 y2)] 85 (by kernel_rfl) ⟨HR2.out.kept (made_draw _), Made.but (made_draw _), HH3.out⟩ (by kernel_rfl) rfl (by kernel_rfl) (by kernel_rfl) ?_
 apply Exists.intro
 refine ⟨?qa, ?qb, ?qc⟩
 case qa =>
  intro s G Ty hT f hf
  have z0 : ∀ x, (f x).cell? ⟨g1, 0, none⟩ = some (.pointer (some ⟨pb, 0, none⟩)) := fun x => ((hf (f x)).2 ⟨x, rfl⟩).2.1.cell p0 (fun e => by have := HLT.out.1; have := HP.out; have := HB.out; have := HG1.out; have e : g1 = pb ∨ g1 = g3 := e; rcases e with e | e <;> omega)
  clear hf
  simp only [RF.putF, Act.put, List.setIfInBounds_toArray, List.set_cons_succ, List.set_cons_zero]
  change wpQuiet _ _ _ _ [_, _, _, _, _, _, _, _, _] _
  repeat (go_big_quiet_step (fail))
  exact wpQuiet_nil rfl
 case qb =>
  refine ⟨⟨?_, ?_, ?_, trivial⟩, ⟨?_, ?_, ?_, trivial⟩, trivial⟩
  ·intro s G u hC hk hw
   rw [show (execOp _ _).run Tryz.prog u = .ok (.enter 60 #[.pointer (some ⟨pb, 0, none⟩), .int .i64 8]) u by kernel_rfl]
   obtain ⟨hR, hM, hH⟩ := hC
   rw [hk] at hR
   refine (HC0.out u hR (Nat.le_trans HBW.out hM.size)).mono ?_
   rintro e u' ⟨rfl, h1, h2⟩
   refine ⟨_, rfl, ⟨?_, hM.then_ (h2.up fun b _ e => .inl e), ?_⟩, .inr fun d e => by cases e; rfl⟩
   ·rw [RF.upd_same]; exact h1
   ·rw [RF.upd_else _ _ (show (1 : Nat) ≠ 0 by decide)]; exact hH.but h2 hp3
  ·intro s G u hC hk hw
   rw [show (execOp _ _).run Tryz.prog u = .ok (.enter 61 #[.pointer (some ⟨pb, 0, none⟩)]) u by kernel_rfl]
   obtain ⟨hR, hM, hH⟩ := hC
   rw [hk] at hR
   refine (HC1.out u hR (Nat.le_trans HBW.out hM.size)).mono ?_
   rintro e u' ⟨rfl, h1, h2⟩
   refine ⟨_, rfl, ⟨?_, hM.then_ (h2.up fun b _ e => .inl e), ?_⟩, .inr fun d e => by cases e; rfl⟩
   ·rw [RF.upd_same]; exact h1
   ·rw [RF.upd_else _ _ (show (1 : Nat) ≠ 0 by decide)]; exact hH.but h2 hp3
  ·intro s G u hC hk hw
   rw [show (execOp _ _).run Tryz.prog u = .ok (.enter 73 #[.pointer (some ⟨pb, 0, none⟩)]) u by kernel_rfl]
   obtain ⟨hR, hM, hH⟩ := hC
   rw [hk] at hR
   refine (HC2.out u hR (Nat.le_trans HBW.out hM.size)).mono ?_
   rintro e u' ⟨rfl, h1, h2⟩
   refine ⟨_, rfl, ⟨?_, hM.then_ (h2.up fun b _ e => .inl e), ?_⟩, .inr fun d e => by cases e; rfl⟩
   ·rw [RF.upd_same]; exact h1
   ·rw [RF.upd_else _ _ (show (1 : Nat) ≠ 0 by decide)]; exact hH.but h2 hp3
  ·intro s G u hC hk hw
   obtain ⟨hR, hM, hH⟩ := hC
   have hH' := hH
   rw [hk] at hH'
   have lu := hH'.here
   have q1 : u.cell? ⟨g3, 1, none⟩ = some (.int .i64 0) := (hH'.at_ 1).trans (by rfl)
   have zz1 := hH'.free 1
   rw [show (execOp _ _).run Tryz.prog u = .ok .skip (u.setCell ⟨g3, 1, none⟩ (.int .i64 y0)) by
    simp only [RF.AG]
    go_simp]
   have kr : But (fun b => b = g3) u (u.setCell ⟨g3, 1, none⟩ (.int .i64 y0)) := ((But.rfl_ (fun b => b = g3) _).put (p := ⟨g3, 1, none⟩) (.inl rfl) _)
   refine ⟨rfl, ⟨?_, (hM.put (p := ⟨g3, 1, none⟩) (.inl (.inr rfl)) _), ?_⟩⟩
   ·rw [RF.upd_else _ _ (show (0 : Nat) ≠ 1 by decide)]
    exact hR.but kr (fun b e => by have : b = g3 := e; have := HB.out; have := HG1.out; have := HLT.out.1; omega)
   ·rw [RF.upd_same]
    exact (hH'.put 1 _)
  ·intro s G u hC hk hw
   obtain ⟨hR, hM, hH⟩ := hC
   have hH' := hH
   rw [hk] at hH'
   have lu := hH'.here
   have q6 : u.cell? ⟨g3, 6, none⟩ = some (.int .i64 0) := (hH'.at_ 6).trans (by rfl)
   have zz6 := hH'.free 6
   have q7 : u.cell? ⟨g3, 7, none⟩ = some (.int .i64 0) := (hH'.at_ 7).trans (by rfl)
   have zz7 := hH'.free 7
   rw [show (execOp _ _).run Tryz.prog u = .ok .skip ((u.setCell ⟨g3, 6, none⟩ (.int .i64 vx)).setCell ⟨g3, 7, none⟩ (.int .i64 vy)) by
    simp only [RF.AG]
    go_simp]
   have kr : But (fun b => b = g3) u ((u.setCell ⟨g3, 6, none⟩ (.int .i64 vx)).setCell ⟨g3, 7, none⟩ (.int .i64 vy)) := (((But.rfl_ (fun b => b = g3) _).put (p := ⟨g3, 6, none⟩) (.inl rfl) _).put (p := ⟨g3, 7, none⟩) (.inl rfl) _)
   refine ⟨rfl, ⟨?_, ((hM.put (p := ⟨g3, 6, none⟩) (.inl (.inr rfl)) _).put (p := ⟨g3, 7, none⟩) (.inl (.inr rfl)) _), ?_⟩⟩
   ·rw [RF.upd_else _ _ (show (0 : Nat) ≠ 1 by decide)]
    exact hR.but kr (fun b e => by have : b = g3 := e; have := HB.out; have := HG1.out; have := HLT.out.1; omega)
   ·rw [RF.upd_same]
    exact ((hH'.put 6 _).put 7 _)
  ·intro s G u hC hk hw
   obtain ⟨hR, hM, hH⟩ := hC
   have hH' := hH
   rw [hk] at hH'
   have lu := hH'.here
   have q9 : u.cell? ⟨g3, 9, none⟩ = some (.int .i64 0) := (hH'.at_ 9).trans (by rfl)
   have zz9 := hH'.free 9
   rw [show (execOp _ _).run Tryz.prog u = .ok .skip (u.setCell ⟨g3, 9, none⟩ (.int .i64 y2)) by
    simp only [RF.AG]
    go_simp]
   have kr : But (fun b => b = g3) u (u.setCell ⟨g3, 9, none⟩ (.int .i64 y2)) := ((But.rfl_ (fun b => b = g3) _).put (p := ⟨g3, 9, none⟩) (.inl rfl) _)
   refine ⟨rfl, ⟨?_, (hM.put (p := ⟨g3, 9, none⟩) (.inl (.inr rfl)) _), ?_⟩⟩
   ·rw [RF.upd_else _ _ (show (0 : Nat) ≠ 1 by decide)]
    exact hR.but kr (fun b e => by have : b = g3 := e; have := HB.out; have := HG1.out; have := HLT.out.1; omega)
   ·rw [RF.upd_same]
    exact (hH'.put 9 _)
 case qc =>
  intro G u hu
  obtain ⟨hR, hM, hH⟩ := hu
  have HR3 : Hid (Rd u pb B s4) := hR
  have HHs : Hid (Has u g3 49 #[.int .i64 5, .int .i64 y0, .int .i64 0, .int .i64 0, .int .i64 0, .int .i64 0, .int .i64 vx, .int .i64 vy, .int .i64 0, .int .i64 y2, .int .i64 0, .int .i64 0, .int .i64 0, .int .i64 0, .slice none 0 0]) := hH
  have HD : Hid (dO s = ((⟨5, y0, 0, 0, 0, 0, vx, vy, 0, y2, 0, 0, 0, 0, none, 0, 0, fun _ => (0, 0)⟩ : Or), s4)) := by
   unfold Hid dO
   rw [EK.out, ES1.out, if_neg (show ¬ (5 : Int) = 1 by decide), if_neg (show ¬ ((5 : Int) = 2 ∨ (5 : Int) = 4) by decide), if_neg (show ¬ (5 : Int) = 3 by decide), if_pos rfl]
   unfold dO5
   simp only []
   rw [EY0.out, EZ0.out, EY1.out, EZ1.out, EY2.out, EZ2.out]
   rfl
  have HHr : Hid (Has u g2 49 #[.int .i64 0, .int .i64 0, .int .i64 0, .int .i64 0, .int .i64 0, .int .i64 0, .int .i64 0, .int .i64 0, .int .i64 0, .int .i64 0, .int .i64 0, .int .i64 0, .int .i64 0, .int .i64 0, .slice none 0 0]) := HH2.out.but hM (fun e => by have := HLT.out.2; have e : g2 = pb ∨ g2 = g3 := e; rcases e with e | e <;> omega)
  have K4 : Hid (But (fun b => b = pb) w u) := KC.out.then_' hM (fun b e => by have e : b = pb ∨ b = g3 := e; rcases e with e | e; exact .inl e; exact .inr (by have := HG1.out; have := HLT.out.1; omega))
  simp only [RF.AG]
  clear hR hM hH p0 d0
  go_wp2_with (first
   | refine wpList_load_row rfl 49 (.tmp 3) rfl g3 rfl 49 _ (0, 0) _ HHs.out Tryz.underlying49 rfl (by kernel_rfl) ?_
   | refine wpList_store_row rfl 49 (.tmp 2) (.tmp 84) rfl g2 #[.int .i64 5, .int .i64 y0, .int .i64 0, .int .i64 0, .int .i64 0, .int .i64 0, .int .i64 vx, .int .i64 vy, .int .i64 0, .int .i64 y2, .int .i64 0, .int .i64 0, .int .i64 0, .int .i64 0, .slice none 0 0] rfl rfl 49 _ HHr.out (by kernel_rfl) rfl (by simp [Value.oneCell']) ?_)
  have hr := setRow_heap u g2 #[.int .i64 0, .int .i64 0, .int .i64 0, .int .i64 0, .int .i64 0, .int .i64 0, .int .i64 0, .int .i64 0, .int .i64 0, .int .i64 0, .int .i64 0, .int .i64 0, .int .i64 0, .int .i64 0, .slice none 0 0] #[.int .i64 5, .int .i64 y0, .int .i64 0, .int .i64 0, .int .i64 0, .int .i64 0, .int .i64 vx, .int .i64 vy, .int .i64 0, .int .i64 y2, .int .i64 0, .int .i64 0, .int .i64 0, .int .i64 0, .slice none 0 0] 49 (0, 0) HHr.out
  have kk : But (fun b => b = g2) u (u.setRow g2 #[.int .i64 5, .int .i64 y0, .int .i64 0, .int .i64 0, .int .i64 0, .int .i64 0, .int .i64 vx, .int .i64 vy, .int .i64 0, .int .i64 y2, .int .i64 0, .int .i64 0, .int .i64 0, .int .i64 0, .slice none 0 0]) := But.row _ _ _
  refine bodyPost_ret (v := .agg #[.int .i64 5, .int .i64 y0, .int .i64 0, .int .i64 0, .int .i64 0, .int .i64 0, .int .i64 vx, .int .i64 vy, .int .i64 0, .int .i64 y2, .int .i64 0, .int .i64 0, .int .i64 0, .int .i64 0, .slice none 0 0]) (results_cell_row (p := 2) (ty := 49) rfl _ _ g2 49 _ (0, 0) _ rfl hr Tryz.underlying49 rfl (by kernel_rfl)) rfl ⟨_, rfl, ?_, ?_, ?_⟩
  ·rw [HD.out]
   exact OrAt.bare _ _ (⟨5, y0, 0, 0, 0, 0, vx, vy, 0, y2, 0, 0, 0, 0, none, 0, 0, fun _ => (0, 0)⟩ : Or) rfl rfl rfl
  ·rw [HD.out]
   exact HR3.out.but kk (fun b e => by have : b = g2 := e; have := HB.out; have := HG1.out; have := HG2.out; omega)
  ·exact K4.out.then_' kk (fun b e => .inr (by have : b = g2 := e; have := HG1.out; have := HG2.out; omega))
end Go.Proofs.YtgdcphmmehedoaaGreat.Fx