/- CoK -/
import Derived.Test.YtgdcphmmehedoaaGreatCb19
set_option maxRecDepth 100000
set_option maxHeartbeats 64000000
/- Package codec: a shape is read. -/
namespace Go.Proofs.YtgdcphmmehedoaaGreat.Fx
open Go.ChangeShapes Go.WideShapes Go.ChangeAt Go.RowKit
set_option linter.unusedVariables false
theorem Sl.of_pairs {w : World} {ao : Option Addr} {p : List (Int × Int)} (h : LsT encP 2 w ao p) : Sl w ao p.length (gP p) := fun hn => by
 obtain ⟨b, off, e, _, hL⟩ := h hn
 refine ⟨b, off, e, fun i hi => ?_⟩
 have hx : p[i]? = some p[i] := List.getElem?_eq_getElem hi
 have e1 : gP p i = p[i] := by unfold gP; rw [List.getD_eq_getElem?_getD, hx]; rfl
 rw [e1]
 exact ⟨hL i _ hx 0 _ rfl, hL i _ hx 1 _ rfl⟩
def ShAt (w w' : World) (x : Value) (d : ShD) : Prop := ∃ ao c, x = .agg #[.int .i64 d.k, .int .i64 d.r, .slice ao d.p.length c] ∧ Sl w' ao d.p.length (gP d.p) ∧ (∀ b off q, ao = some ⟨b, off, q⟩ → w.heap.size ≤ b) ∧ ((ao = none ∧ d.p.length = 0 ∧ c = 0) ∨ ∃ a, ao = some a)
theorem rshape1_c {pb B : Nat} {s : Rs} {w : World} (h : Rd w pb B s) (hs : RsOk s) (hB : B ≤ w.heap.size) (ek : (dN 1 s).1 = 1) :
  Calls Tryz.prog 74 #[rdV pb] w fun e w' => ∃ x, e = .returned x ∧ ShAt w w' x (dS s).1 ∧ Rd w' pb B (dS s).2 ∧ But (fun b => b = pb) w w' := by
 have HB := hid hB
 have HP := hid h.1
 have HS := hid hs
 obtain ⟨s1, es1⟩ : ∃ z, (dN 1 s).2 = z := ⟨_, rfl⟩
 have HS1 := hid (dN_ok (m := 1) hs)
 rw [es1] at HS1
 have ES1 := hid es1
 have EK := hid ek
 obtain ⟨W, eW⟩ : ∃ W, W = (w.alloc (.cells #[.pointer (some ⟨pb, 0, none⟩)] 88)).alloc (.cells #[.int .i64 0, .int .i64 0, .slice none 0 0] 33) := ⟨_, rfl⟩
 have KA : Hid (Made w.heap.size w W) := by unfold Hid; rw [eW]; exact ((Made.rfl_ _ _).cells (Nat.le_refl _) _ _).cells (by simp) _ _
 obtain ⟨g1, eg1⟩ : ∃ g, w.heap.size = g := ⟨_, rfl⟩
 obtain ⟨g2, eg2⟩ : ∃ g, (w.alloc (.cells #[.pointer (some ⟨pb, 0, none⟩)] 88)).heap.size = g := ⟨_, rfl⟩
 have HG1 := hid eg1
 have HG2 : Hid (g2 = g1 + 1) := by unfold Hid; rw [← eg2, ← eg1]; simp
 have HH1 : Hid (Has W g1 88 #[.pointer (some ⟨pb, 0, none⟩)]) := by unfold Hid; rw [eW, ← eg1]; exact (has_new _ _ _).more _
 have HH2 : Hid (Has W g2 33 #[.int .i64 0, .int .i64 0, .slice none 0 0]) := by unfold Hid; rw [eW, ← eg2]; exact has_new _ _ _
 have H1 := hid (rN_c (m := 1) (h.kept KA.out) hs (by omega) (by omega))
 rw [ek, es1] at H1
 have p0 : W.cell? ⟨g1, 0, none⟩ = some (.pointer (some ⟨pb, 0, none⟩)) := HH1.out.at_ 0
 clear h hs hB ek es1
 go_enter Tryz.func74, Tryz.ntmps74
 go_upto_region 1 with fail
 first | rw [← eW] | (rw [eg1] at *; rw [← eW])
 clear eW
 try rw [eg2]
 clear eg2
 try rw [eg1]
 clear eg1
 go_wp2_with fail
 refine H1.out.mono ?_
 rintro e w1 ⟨rfl, hR1, hM1⟩
 have hp1 : ¬ g1 = pb := by have := HP.out; have := HB.out; have := HG1.out; omega
 have hp2 : ¬ g2 = pb := by have := HP.out; have := HB.out; have := HG1.out; have := HG2.out; omega
 have KB := hid ((Made.but KA.out : But (fun b => b = pb) w W).then_ hM1)
 have HHa := hid (HH1.out.but hM1 hp1)
 have HHb := hid (HH2.out.but hM1 hp2)
 have HR1 := hid hR1
 clear hR1 hM1 p0 HH1 HH2
 obtain ⟨W2, eW2⟩ : ∃ V, V = w1.alloc (.cells #[.int .i64 1, .int .i64 0, .slice none 0 0] 33) := ⟨_, rfl⟩
 have K2 : Hid (Made w1.heap.size w1 W2) := by unfold Hid; rw [eW2]; exact (Made.rfl_ _ _).cells (Nat.le_refl _) _ _
 obtain ⟨g3, eg3⟩ : ∃ g, w1.heap.size = g := ⟨_, rfl⟩
 have HG3 := hid eg3
 have hl1 := HHa.out.here
 have hl2 := HHb.out.here
 have HH3 : Hid (Has W2 g3 33 #[.int .i64 1, .int .i64 0, .slice none 0 0]) := by unfold Hid; rw [eW2, ← eg3]; exact has_new _ _ _
 have HH1 : Hid (Has W2 g1 88 #[.pointer (some ⟨pb, 0, none⟩)]) := HHa.out.stays K2.out hl1
 have HH2 : Hid (Has W2 g2 33 #[.int .i64 0, .int .i64 0, .slice none 0 0]) := HHb.out.stays K2.out hl2
 have HR2 := hid (HR1.out.kept K2.out)
 have KC := hid (KB.out.via K2.out)
 have HLT : Hid (g1 < g3 ∧ g2 < g3) := by unfold Hid; omega
 have p0 : W2.cell? ⟨g1, 0, none⟩ = some (.pointer (some ⟨pb, 0, none⟩)) := HH1.out.at_ 0
 have d0 : W2.cell? ⟨g3, 0, none⟩ = some (.int .i64 1) := HH3.out.at_ 0
 have d1 : W2.cell? ⟨g3, 1, none⟩ = some (.int .i64 0) := HH3.out.at_ 1
 have d2 : W2.cell? ⟨g3, 2, none⟩ = some (.slice none 0 0) := HH3.out.at_ 2
 have l3 := HH3.out.here
 have z31 := HH3.out.free 1
 clear HHa HHb hl1 hl2 HR1
 go_upto_region 2 with fail
 rw [← eW2]
 clear eW2
 try rw [eg3]
 clear eg3
 have H3 := hid (rF_c HR2.out HS1.out)
 obtain ⟨r, er⟩ : ∃ r, (dN 8 s1).1 = r := ⟨_, rfl⟩
 obtain ⟨s2, es2⟩ : ∃ r, (dN 8 s1).2 = r := ⟨_, rfl⟩
 have HD : Hid (dS s = (⟨1, r, []⟩, s2)) := by unfold Hid dS; rw [if_pos EK.out, ES1.out, er, es2]
 rw [er, es2] at H3
 clear er es2
 go_wp2_with fail
 refine H3.out.mono ?_
 rintro e w3 ⟨rfl, hR3, hM3⟩
 have HR3 := hid hR3
 have hp3 : ¬ g3 = pb := by have := HP.out; have := HB.out; have := HG1.out; have := HLT.out.1; omega
 have HH4 := hid (HH3.out.but hM3 hp3)
 have HH5 := hid (HH2.out.but hM3 hp2)
 have K3 := hid (KC.out.then_ hM3)
 have q1 : w3.cell? ⟨g3, 1, none⟩ = some (.int .i64 0) := HH4.out.at_ 1
 have l4 := HH4.out.here
 have z4 := HH4.out.free 1
 have K3w := hid hM3
 clear hR3 hM3 p0 d0 d1 d2 l3 z31
 obtain ⟨V, eV⟩ : ∃ z, z = w3.setCell ⟨g3, 1, none⟩ (.int .i64 r) := ⟨_, rfl⟩
 have HHs : Hid (Has V g3 33 #[.int .i64 1, .int .i64 r, .slice none 0 0]) := by unfold Hid; rw [eV]; exact HH4.out.put 1 _
 have kv : But (fun b => b = g3) w3 V := by rw [eV]; exact (But.rfl_ (fun b => b = g3) _).put (p := ⟨g3, 1, none⟩) (.inl rfl) _
 have HHr : Hid (Has V g2 33 #[.int .i64 0, .int .i64 0, .slice none 0 0]) := HH5.out.but kv (by have := HLT.out.2; omega)
 have HR4 := hid (HR3.out.but kv (fun b e => by have : b = g3 := e; have := HB.out; have := HG1.out; have := HLT.out.1; omega))
 have K4 : Hid (But (fun b => b = pb) w V) := K3.out.then_' kv (fun b e => .inr (by have : b = g3 := e; have := HG1.out; have := HLT.out.1; omega))
 clear kv
 go_upto_region 7 with fail
 rw [← eV]
 clear eV q1 l4 z4
 have y0 : V.cell? ⟨g3, 0, none⟩ = some (.int .i64 1) := HHs.out.at_ 0
 have y1 : V.cell? ⟨g3, 1, none⟩ = some (.int .i64 r) := HHs.out.at_ 1
 have y2 : V.cell? ⟨g3, 2, none⟩ = some (.slice none 0 0) := HHs.out.at_ 2
 have v0 : V.cell? ⟨g2, 0, none⟩ = some (.int .i64 0) := HHr.out.at_ 0
 have v1 : V.cell? ⟨g2, 1, none⟩ = some (.int .i64 0) := HHr.out.at_ 1
 have v2 : V.cell? ⟨g2, 2, none⟩ = some (.slice none 0 0) := HHr.out.at_ 2
 have f0 := HHr.out.free 0
 have f1 := HHr.out.free 1
 have f2 := HHr.out.free 2
 have lr := HHr.out.here
 go_wp2_with fail
 obtain ⟨V3, eV3⟩ : ∃ z, z = ((V.setCell ⟨g2, 0, none⟩ (.int .i64 1)).setCell ⟨g2, 1, none⟩ (.int .i64 r)).setCell ⟨g2, 2, none⟩ (.slice none 0 0) := ⟨_, rfl⟩
 have r0 : (((V.setCell ⟨g2, 0, none⟩ (.int .i64 1)).setCell ⟨g2, 1, none⟩ (.int .i64 r)).setCell ⟨g2, 2, none⟩ (.slice none 0 0)).cell? ⟨g2, 0, none⟩ = some (.int .i64 1) := by go_simp
 have r1 : (((V.setCell ⟨g2, 0, none⟩ (.int .i64 1)).setCell ⟨g2, 1, none⟩ (.int .i64 r)).setCell ⟨g2, 2, none⟩ (.slice none 0 0)).cell? ⟨g2, 1, none⟩ = some (.int .i64 r) := by go_simp
 have r2 : (((V.setCell ⟨g2, 0, none⟩ (.int .i64 1)).setCell ⟨g2, 1, none⟩ (.int .i64 r)).setCell ⟨g2, 2, none⟩ (.slice none 0 0)).cell? ⟨g2, 2, none⟩ = some (.slice none 0 0) := by go_simp
 have kk : But (fun b => b = g2) V (((V.setCell ⟨g2, 0, none⟩ (.int .i64 1)).setCell ⟨g2, 1, none⟩ (.int .i64 r)).setCell ⟨g2, 2, none⟩ (.slice none 0 0)) := (((But.rfl_ (fun b => b = g2) _).put (p := ⟨g2, 0, none⟩) (.inl rfl) _).put (p := ⟨g2, 1, none⟩) (.inl rfl) _).put (p := ⟨g2, 2, none⟩) (.inl rfl) _
 refine bodyPost_ret (v := .agg #[.int .i64 1, .int .i64 r, .slice none 0 0]) (by simp [results, Tryz.results74, go_sem, r0, r1, r2]) rfl ⟨_, rfl, ?_, ?_, ?_⟩
 ·rw [HD.out]
  exact ⟨none, 0, rfl, fun hn => absurd hn (Nat.lt_irrefl 0), fun b off q e => (by cases e), .inl ⟨rfl, rfl, rfl⟩⟩
 ·rw [HD.out]
  exact HR4.out.but kk (fun b e => by have : b = g2 := e; have := HB.out; have := HG1.out; have := HG2.out; omega)
 ·exact K4.out.then_' kk (fun b e => .inr (by have : b = g2 := e; have := HG1.out; have := HG2.out; omega))
theorem rshape0_c {pb B : Nat} {s : Rs} {w : World} {k : Int} (h : Rd w pb B s) (hs : RsOk s) (hB : B ≤ w.heap.size) (ek : (dN 1 s).1 = k) (h1 : k ≠ 1) (h2 : k ≠ 2) :
  Calls Tryz.prog 74 #[rdV pb] w fun e w' => ∃ x, e = .returned x ∧ ShAt w w' x (dS s).1 ∧ Rd w' pb B (dS s).2 ∧ But (fun b => b = pb) w w' := by
 have q1 : (k == 1) = false := by rw [beq_eq_false_iff_ne]; exact h1
 have q2 : (k == 2) = false := by rw [beq_eq_false_iff_ne]; exact h2
 have N1 := hid h1
 have N2 := hid h2
 clear h1 h2
 have HB := hid hB
 have HP := hid h.1
 have HS := hid hs
 obtain ⟨s1, es1⟩ : ∃ z, (dN 1 s).2 = z := ⟨_, rfl⟩
 have HS1 := hid (dN_ok (m := 1) hs)
 rw [es1] at HS1
 have ES1 := hid es1
 have EK := hid ek
 obtain ⟨W, eW⟩ : ∃ W, W = (w.alloc (.cells #[.pointer (some ⟨pb, 0, none⟩)] 88)).alloc (.cells #[.int .i64 0, .int .i64 0, .slice none 0 0] 33) := ⟨_, rfl⟩
 have KA : Hid (Made w.heap.size w W) := by unfold Hid; rw [eW]; exact ((Made.rfl_ _ _).cells (Nat.le_refl _) _ _).cells (by simp) _ _
 obtain ⟨g1, eg1⟩ : ∃ g, w.heap.size = g := ⟨_, rfl⟩
 obtain ⟨g2, eg2⟩ : ∃ g, (w.alloc (.cells #[.pointer (some ⟨pb, 0, none⟩)] 88)).heap.size = g := ⟨_, rfl⟩
 have HG1 := hid eg1
 have HG2 : Hid (g2 = g1 + 1) := by unfold Hid; rw [← eg2, ← eg1]; simp
 have HH1 : Hid (Has W g1 88 #[.pointer (some ⟨pb, 0, none⟩)]) := by unfold Hid; rw [eW, ← eg1]; exact (has_new _ _ _).more _
 have HH2 : Hid (Has W g2 33 #[.int .i64 0, .int .i64 0, .slice none 0 0]) := by unfold Hid; rw [eW, ← eg2]; exact has_new _ _ _
 have H1 := hid (rN_c (m := 1) (h.kept KA.out) hs (by omega) (by omega))
 rw [ek, es1] at H1
 have p0 : W.cell? ⟨g1, 0, none⟩ = some (.pointer (some ⟨pb, 0, none⟩)) := HH1.out.at_ 0
 clear h hs hB ek es1
 go_enter Tryz.func74, Tryz.ntmps74
 go_upto_region 1 with fail
 first | rw [← eW] | (rw [eg1] at *; rw [← eW])
 clear eW
 try rw [eg2]
 clear eg2
 try rw [eg1]
 clear eg1
 go_wp2_with fail
 refine H1.out.mono ?_
 rintro e w1 ⟨rfl, hR1, hM1⟩
 have hp1 : ¬ g1 = pb := by have := HP.out; have := HB.out; have := HG1.out; omega
 have hp2 : ¬ g2 = pb := by have := HP.out; have := HB.out; have := HG1.out; have := HG2.out; omega
 have KB := hid ((Made.but KA.out : But (fun b => b = pb) w W).then_ hM1)
 have HHa := hid (HH1.out.but hM1 hp1)
 have HHb := hid (HH2.out.but hM1 hp2)
 have HR1 := hid hR1
 clear hR1 hM1 p0 HH1 HH2
 obtain ⟨W2, eW2⟩ : ∃ V, V = w1.alloc (.cells #[.int .i64 k, .int .i64 0, .slice none 0 0] 33) := ⟨_, rfl⟩
 have K2 : Hid (Made w1.heap.size w1 W2) := by unfold Hid; rw [eW2]; exact (Made.rfl_ _ _).cells (Nat.le_refl _) _ _
 obtain ⟨g3, eg3⟩ : ∃ g, w1.heap.size = g := ⟨_, rfl⟩
 have HG3 := hid eg3
 have hl1 := HHa.out.here
 have hl2 := HHb.out.here
 have HH3 : Hid (Has W2 g3 33 #[.int .i64 k, .int .i64 0, .slice none 0 0]) := by unfold Hid; rw [eW2, ← eg3]; exact has_new _ _ _
 have HH1 : Hid (Has W2 g1 88 #[.pointer (some ⟨pb, 0, none⟩)]) := HHa.out.stays K2.out hl1
 have HH2 : Hid (Has W2 g2 33 #[.int .i64 0, .int .i64 0, .slice none 0 0]) := HHb.out.stays K2.out hl2
 have HR2 := hid (HR1.out.kept K2.out)
 have KC := hid (KB.out.via K2.out)
 have HLT : Hid (g1 < g3 ∧ g2 < g3) := by unfold Hid; omega
 have p0 : W2.cell? ⟨g1, 0, none⟩ = some (.pointer (some ⟨pb, 0, none⟩)) := HH1.out.at_ 0
 have d0 : W2.cell? ⟨g3, 0, none⟩ = some (.int .i64 k) := HH3.out.at_ 0
 have d1 : W2.cell? ⟨g3, 1, none⟩ = some (.int .i64 0) := HH3.out.at_ 1
 have d2 : W2.cell? ⟨g3, 2, none⟩ = some (.slice none 0 0) := HH3.out.at_ 2
 have l3 := HH3.out.here
 have z31 := HH3.out.free 1
 clear HHa HHb hl1 hl2 HR1
 go_upto_region 2 with fail
 rw [← eW2]
 clear eW2
 try rw [eg3]
 clear eg3
 have HD : Hid (dS s = (⟨k, 0, []⟩, s1)) := by unfold Hid dS; rw [EK.out, if_neg N1.out, if_neg N2.out, ES1.out]
 have HHr := hid HH2.out
 clear p0 d0 d1 d2 l3 z31
 have y0 : W2.cell? ⟨g3, 0, none⟩ = some (.int .i64 k) := HH3.out.at_ 0
 have y1 : W2.cell? ⟨g3, 1, none⟩ = some (.int .i64 0) := HH3.out.at_ 1
 have y2 : W2.cell? ⟨g3, 2, none⟩ = some (.slice none 0 0) := HH3.out.at_ 2
 have v0 : W2.cell? ⟨g2, 0, none⟩ = some (.int .i64 0) := HHr.out.at_ 0
 have v1 : W2.cell? ⟨g2, 1, none⟩ = some (.int .i64 0) := HHr.out.at_ 1
 have v2 : W2.cell? ⟨g2, 2, none⟩ = some (.slice none 0 0) := HHr.out.at_ 2
 have f0 := HHr.out.free 0
 have f1 := HHr.out.free 1
 have f2 := HHr.out.free 2
 have lr := HHr.out.here
 go_wp2_with fail
 obtain ⟨V3, eV3⟩ : ∃ z, z = ((W2.setCell ⟨g2, 0, none⟩ (.int .i64 k)).setCell ⟨g2, 1, none⟩ (.int .i64 0)).setCell ⟨g2, 2, none⟩ (.slice none 0 0) := ⟨_, rfl⟩
 have r0 : (((W2.setCell ⟨g2, 0, none⟩ (.int .i64 k)).setCell ⟨g2, 1, none⟩ (.int .i64 0)).setCell ⟨g2, 2, none⟩ (.slice none 0 0)).cell? ⟨g2, 0, none⟩ = some (.int .i64 k) := by go_simp
 have r1 : (((W2.setCell ⟨g2, 0, none⟩ (.int .i64 k)).setCell ⟨g2, 1, none⟩ (.int .i64 0)).setCell ⟨g2, 2, none⟩ (.slice none 0 0)).cell? ⟨g2, 1, none⟩ = some (.int .i64 0) := by go_simp
 have r2 : (((W2.setCell ⟨g2, 0, none⟩ (.int .i64 k)).setCell ⟨g2, 1, none⟩ (.int .i64 0)).setCell ⟨g2, 2, none⟩ (.slice none 0 0)).cell? ⟨g2, 2, none⟩ = some (.slice none 0 0) := by go_simp
 have kk : But (fun b => b = g2) W2 (((W2.setCell ⟨g2, 0, none⟩ (.int .i64 k)).setCell ⟨g2, 1, none⟩ (.int .i64 0)).setCell ⟨g2, 2, none⟩ (.slice none 0 0)) := (((But.rfl_ (fun b => b = g2) _).put (p := ⟨g2, 0, none⟩) (.inl rfl) _).put (p := ⟨g2, 1, none⟩) (.inl rfl) _).put (p := ⟨g2, 2, none⟩) (.inl rfl) _
 refine bodyPost_ret (v := .agg #[.int .i64 k, .int .i64 0, .slice none 0 0]) (by simp [results, Tryz.results74, go_sem, r0, r1, r2]) rfl ⟨_, rfl, ?_, ?_, ?_⟩
 ·rw [HD.out]
  exact ⟨none, 0, rfl, fun hn => absurd hn (Nat.lt_irrefl 0), fun b off q e => (by cases e), .inl ⟨rfl, rfl, rfl⟩⟩
 ·rw [HD.out]
  exact HR2.out.but kk (fun b e => by have : b = g2 := e; have := HB.out; have := HG1.out; have := HG2.out; omega)
 ·exact KC.out.then_' kk (fun b e => .inr (by have : b = g2 := e; have := HG1.out; have := HG2.out; omega))
theorem rshape2_c {pb B : Nat} {s : Rs} {w : World} (h : Rd w pb B s) (hs : RsOk s) (hB : B ≤ w.heap.size) (ek : (dN 1 s).1 = 2) :
  Calls Tryz.prog 74 #[rdV pb] w fun e w' => ∃ x, e = .returned x ∧ ShAt w w' x (dS s).1 ∧ Rd w' pb B (dS s).2 ∧ But (fun b => b = pb) w w' := by
 have HB := hid hB
 have HP := hid h.1
 have HS := hid hs
 obtain ⟨s1, es1⟩ : ∃ z, (dN 1 s).2 = z := ⟨_, rfl⟩
 have HS1 := hid (dN_ok (m := 1) hs)
 rw [es1] at HS1
 have ES1 := hid es1
 have EK := hid ek
 obtain ⟨W, eW⟩ : ∃ W, W = (w.alloc (.cells #[.pointer (some ⟨pb, 0, none⟩)] 88)).alloc (.cells #[.int .i64 0, .int .i64 0, .slice none 0 0] 33) := ⟨_, rfl⟩
 have KA : Hid (Made w.heap.size w W) := by unfold Hid; rw [eW]; exact ((Made.rfl_ _ _).cells (Nat.le_refl _) _ _).cells (by simp) _ _
 obtain ⟨g1, eg1⟩ : ∃ g, w.heap.size = g := ⟨_, rfl⟩
 obtain ⟨g2, eg2⟩ : ∃ g, (w.alloc (.cells #[.pointer (some ⟨pb, 0, none⟩)] 88)).heap.size = g := ⟨_, rfl⟩
 have HG1 := hid eg1
 have HG2 : Hid (g2 = g1 + 1) := by unfold Hid; rw [← eg2, ← eg1]; simp
 have HH1 : Hid (Has W g1 88 #[.pointer (some ⟨pb, 0, none⟩)]) := by unfold Hid; rw [eW, ← eg1]; exact (has_new _ _ _).more _
 have HH2 : Hid (Has W g2 33 #[.int .i64 0, .int .i64 0, .slice none 0 0]) := by unfold Hid; rw [eW, ← eg2]; exact has_new _ _ _
 have H1 := hid (rN_c (m := 1) (h.kept KA.out) hs (by omega) (by omega))
 rw [ek, es1] at H1
 have p0 : W.cell? ⟨g1, 0, none⟩ = some (.pointer (some ⟨pb, 0, none⟩)) := HH1.out.at_ 0
 clear h hs hB ek es1
 go_enter Tryz.func74, Tryz.ntmps74
 go_upto_region 1 with fail
 first | rw [← eW] | (rw [eg1] at *; rw [← eW])
 clear eW
 try rw [eg2]
 clear eg2
 try rw [eg1]
 clear eg1
 go_wp2_with fail
 refine H1.out.mono ?_
 rintro e w1 ⟨rfl, hR1, hM1⟩
 have hp1 : ¬ g1 = pb := by have := HP.out; have := HB.out; have := HG1.out; omega
 have hp2 : ¬ g2 = pb := by have := HP.out; have := HB.out; have := HG1.out; have := HG2.out; omega
 have KB := hid ((Made.but KA.out : But (fun b => b = pb) w W).then_ hM1)
 have HHa := hid (HH1.out.but hM1 hp1)
 have HHb := hid (HH2.out.but hM1 hp2)
 have HR1 := hid hR1
 clear hR1 hM1 p0 HH1 HH2
 obtain ⟨W2, eW2⟩ : ∃ V, V = w1.alloc (.cells #[.int .i64 2, .int .i64 0, .slice none 0 0] 33) := ⟨_, rfl⟩
 have K2 : Hid (Made w1.heap.size w1 W2) := by unfold Hid; rw [eW2]; exact (Made.rfl_ _ _).cells (Nat.le_refl _) _ _
 obtain ⟨g3, eg3⟩ : ∃ g, w1.heap.size = g := ⟨_, rfl⟩
 have HG3 := hid eg3
 have hl1 := HHa.out.here
 have hl2 := HHb.out.here
 have HH3 : Hid (Has W2 g3 33 #[.int .i64 2, .int .i64 0, .slice none 0 0]) := by unfold Hid; rw [eW2, ← eg3]; exact has_new _ _ _
 have HH1 : Hid (Has W2 g1 88 #[.pointer (some ⟨pb, 0, none⟩)]) := HHa.out.stays K2.out hl1
 have HH2 : Hid (Has W2 g2 33 #[.int .i64 0, .int .i64 0, .slice none 0 0]) := HHb.out.stays K2.out hl2
 have HR2 := hid (HR1.out.kept K2.out)
 have KC := hid (KB.out.via K2.out)
 have HLT : Hid (g1 < g3 ∧ g2 < g3) := by unfold Hid; omega
 have p0 : W2.cell? ⟨g1, 0, none⟩ = some (.pointer (some ⟨pb, 0, none⟩)) := HH1.out.at_ 0
 have d0 : W2.cell? ⟨g3, 0, none⟩ = some (.int .i64 2) := HH3.out.at_ 0
 have d1 : W2.cell? ⟨g3, 1, none⟩ = some (.int .i64 0) := HH3.out.at_ 1
 have d2 : W2.cell? ⟨g3, 2, none⟩ = some (.slice none 0 0) := HH3.out.at_ 2
 have l3 := HH3.out.here
 have z31 := HH3.out.free 1
 clear HHa HHb hl1 hl2 HR1
 go_upto_region 2 with fail
 rw [← eW2]
 clear eW2
 try rw [eg3]
 clear eg3
 obtain ⟨c, ec⟩ : ∃ c, (dN 1 s1).1 = c := ⟨_, rfl⟩
 obtain ⟨s2, es2⟩ : ∃ r, (dN 1 s1).2 = r := ⟨_, rfl⟩
 have hlt := dN_lt (m := 1) HS1.out (by omega)
 have HS2 := hid (dN_ok (m := 1) HS1.out)
 rw [ec] at hlt
 rw [es2] at HS2
 obtain ⟨N, eN⟩ : ∃ N : Nat, c = (N : Int) := ⟨c.toNat, by omega⟩
 subst eN
 have hN : N < 256 := by have := hlt.2; omega
 obtain ⟨p, ep⟩ : ∃ p, (dRead dV N s2).1 = p := ⟨_, rfl⟩
 obtain ⟨s3, es3⟩ : ∃ r, (dRead dV N s2).2 = r := ⟨_, rfl⟩
 have HD : Hid (dS s = (⟨2, 0, p⟩, s3)) := by unfold Hid dS; rw [EK.out, if_neg (show ¬ (2 : Int) = 1 by decide), if_pos rfl, ES1.out, ec, es2, Int.toNat_natCast, ep, es3]
 have HNum : Hid (∀ u, Rd u pb B s1 → Calls Tryz.prog 60 #[.pointer (some ⟨pb, 0, none⟩), .int .i64 1] u fun e u' => e = .returned (.int .i64 (N : Nat)) ∧ Rd u' pb B s2 ∧ But (fun b => b = pb) u u') := fun u hu => by
  have h := rN_c (m := 1) hu HS1.out (by omega) (by omega)
  rw [ec, es2] at h
  exact h
 have HRead : Hid (∀ u, Rd u pb B s2 → B ≤ u.heap.size → Calls Tryz.prog 100 #[rdV pb, .int .i64 (N : Nat), .func (.methodOf 88 "V") #[] #[]] u fun e u' => ∃ x, e = .returned x ∧ u'.ownsRow u.heap.size 28 2 x p.length (flatE encP p) ∧ Rd u' pb B s3 ∧ But (fun b => b = pb) u u') := fun u hu hb => by
  have h := rreadV_c (N := N) hu HS2.out hb (by omega)
  rw [ep, es3] at h
  exact h
 clear ec es2 hlt ep es3
 have HBW : Hid (B ≤ W2.heap.size) := by unfold Hid; have := KC.out.size; have := HB.out; omega
 have hp3 : ¬ g3 = pb := by have := HP.out; have := HB.out; have := HG1.out; have := HLT.out.1; omega
 go_upto_region 6 with fail
 refine RF.reg_flow (fun s G u => Rd u pb B (if s 0 = 0 then s1 else if s 0 = 1 then s2 else s3) ∧ But (fun b => b = pb ∨ b = g3) W2 u ∧ Has u g3 33 #[.int .i64 2, .int .i64 0, if s 0 < 3 then .slice none 0 0 else G 5] ∧ (2 ≤ s 0 → u.ownsRow W2.heap.size 28 2 (G 5) p.length (flatE encP p))) [[3, 5, 7], [4]] [(5, 23)] [0, 1, 2, 6] [(21, .int .i64 (N : Nat)), (22, .func (.methodOf 88 "V") #[] #[])] 26 (by kernel_rfl) ⟨HR2.out.kept (made_draw _), Made.but (made_draw _), HH3.out, fun h => absurd h (by decide)⟩ (by kernel_rfl) rfl (by kernel_rfl) (by kernel_rfl) ?_
 apply Exists.intro
 refine ⟨?qa, ?qb, ?qc⟩
 case qa =>
  intro s G Ty hT f hf
  have z0 : ∀ x, (f x).cell? ⟨g1, 0, none⟩ = some (.pointer (some ⟨pb, 0, none⟩)) := fun x => ((hf (f x)).2 ⟨x, rfl⟩).2.1.cell p0 (fun e => by have := HLT.out.1; have := HP.out; have := HB.out; have := HG1.out; have e : g1 = pb ∨ g1 = g3 := e; rcases e with e | e <;> omega)
  clear hf
  simp only [RF.putF, Act.put, List.setIfInBounds_toArray, List.set_cons_succ, List.set_cons_zero]
  change wpQuiet _ _ _ _ [_, _, _, _] _
  repeat (go_big_quiet_step (fail))
  exact wpQuiet_nil rfl
 case qb =>
  refine ⟨⟨?_, ?_, ?_, trivial⟩, ⟨?_, trivial⟩, trivial⟩
  ·intro s G u hC hk hw
   rw [show (execOp _ _).run Tryz.prog u = .ok (.enter 60 #[.pointer (some ⟨pb, 0, none⟩), .int .i64 1]) u by kernel_rfl]
   obtain ⟨hR, hM, hH, _⟩ := hC
   rw [hk, if_pos rfl] at hR
   rw [hk, if_pos (show 0 < 3 by decide)] at hH
   refine (HNum.out u hR).mono ?_
   rintro e u' ⟨rfl, h1, h2⟩
   refine ⟨_, rfl, ⟨?_, hM.then_ (h2.up fun b _ e => .inl e), ?_, fun h => ?_⟩, .inr fun d e => by cases e; rfl⟩
   ·rw [RF.upd_same]; exact h1
   ·rw [RF.upd_same]; exact hH.but h2 hp3
   ·rw [RF.upd_same] at h; exact absurd h (by decide)
  ·intro s G u hC hk hw
   rw [show (execOp _ _).run Tryz.prog u = .ok (.enter 100 #[rdV pb, .int .i64 (N : Nat), .func (.methodOf 88 "V") #[] #[]]) u by kernel_rfl]
   obtain ⟨hR, hM, hH, _⟩ := hC
   rw [hk, if_neg (show ¬ 1 = 0 by decide), if_pos rfl] at hR
   rw [hk, if_pos (show 1 < 3 by decide)] at hH
   refine (HRead.out u hR (Nat.le_trans HBW.out hM.size)).mono ?_
   rintro e u' ⟨x, rfl, h0, h1, h2⟩
   refine ⟨x, rfl, ⟨?_, hM.then_ (h2.up fun b _ e => .inl e), ?_, fun h => ?_⟩, .inl rfl⟩
   ·rw [RF.upd_same]; exact h1
   ·rw [RF.upd_same]; exact hH.but h2 hp3
   ·show u'.ownsRow W2.heap.size 28 2 (RF.upd G 5 x 5) p.length (flatE encP p)
    rw [RF.upd_same]
    refine ⟨h0.1, h0.2.imp id ?_⟩
    rintro ⟨g, cap, cur, e, hb, r⟩
    exact ⟨g, cap, cur, e, Nat.le_trans hM.size hb, r⟩
  ·intro s G u hC hk hw
   obtain ⟨hR, hM, hH, hO⟩ := hC
   rw [hk, if_neg (show ¬ 2 = 0 by decide), if_neg (show ¬ 2 = 1 by decide)] at hR
   rw [hk, if_pos (show 2 < 3 by decide)] at hH
   have hO := hO (by rw [hk]; exact Nat.le_refl 2)
   obtain ⟨ao, c, e7, _, _, hlow⟩ := LsT.of_own (enc := encP) (k := 2) (l := p) (fun _ => rfl) hO
   have hne : Value.ownBlock (G 5) ≠ some g3 := fun e => by have := (hO.lt g3 e).1; have := HH3.out.here; omega
   have lu := hH.here
   have q2 : u.cell? ⟨g3, 2, none⟩ = some (.slice none 0 0) := hH.at_ 2
   have zz := hH.free 2
   rw [show (execOp _ _).run Tryz.prog u = .ok .skip (u.setCell ⟨g3, 2, none⟩ (.slice ao p.length c)) by
    simp only [RF.AG, Act.put, List.setIfInBounds_toArray, List.set_cons_succ, List.set_cons_zero]
    rw [e7]
    go_simp]
   rw [← e7]
   refine ⟨rfl, ⟨?_, ?_, ?_, fun h => ?_⟩⟩
   ·rw [RF.upd_same]
    exact hR.but (X := fun b => b = g3) ((But.rfl_ (fun b => b = g3) _).put (p := ⟨g3, 2, none⟩) (.inl rfl) _) (fun b e => by have : b = g3 := e; have := HB.out; have := HG1.out; have := HLT.out.1; omega)
   ·exact hM.put (p := ⟨g3, 2, none⟩) (.inl (.inr rfl)) _
   ·rw [RF.upd_same]
    exact hH.put 2 _
   ·exact own_other hO (p := ⟨g3, 2, none⟩) hne _
  ·intro s G u hC hk hw
   rw [show (execOp _ _).run Tryz.prog u = .ok (.value (.func (.methodOf 88 "V") #[] #[])) u by kernel_rfl]
   obtain ⟨hR, hM, hH, hO⟩ := hC
   refine ⟨⟨?_, hM, ?_, fun h => ?_⟩, .inr fun d e => by cases e; rfl⟩
   ·rw [RF.upd_else _ _ (show (0 : Nat) ≠ 1 by decide)]; exact hR
   ·rw [RF.upd_else _ _ (show (0 : Nat) ≠ 1 by decide)]; exact hH
   ·rw [RF.upd_else _ _ (show (0 : Nat) ≠ 1 by decide)] at h; exact hO h
 case qc =>
  intro G u hu
  obtain ⟨hR, hM, hH, hO⟩ := hu
  have hO := hO (show 2 ≤ 3 by decide)
  obtain ⟨ao, c, e7, _, hls, hlow⟩ := LsT.of_own (enc := encP) (k := 2) (l := p) (fun _ => rfl) hO
  have HR3 : Hid (Rd u pb B s3) := hR
  have HHs0 : Has u g3 33 #[.int .i64 2, .int .i64 0, G 5] := hH
  rw [e7] at HHs0
  have HHs := hid HHs0
  have HHr : Hid (Has u g2 33 #[.int .i64 0, .int .i64 0, .slice none 0 0]) := HH2.out.but hM (fun e => by have := HLT.out.2; have e : g2 = pb ∨ g2 = g3 := e; rcases e with e | e <;> omega)
  have K4 : Hid (But (fun b => b = pb) w u) := KC.out.then_' hM (fun b e => by have e : b = pb ∨ b = g3 := e; rcases e with e | e; exact .inl e; exact .inr (by have := HG1.out; have := HLT.out.1; omega))
  have HSh : Hid (Sl u ao p.length (gP p)) := Sl.of_pairs hls
  have HLow : Hid (∀ b off q, ao = some ⟨b, off, q⟩ → w.heap.size ≤ b) := fun b off q e => by
   rcases hO.2 with ⟨e0, _⟩ | ⟨g, cap, cur, e0, hb, _⟩
   ·rw [e7] at e0
    injection e0 with a1 a2 a3
    rw [a1] at e; cases e
   ·rw [e7] at e0
    injection e0 with a1 a2 a3
    rw [a1] at e; cases e
    have := KC.out.size
    omega
  have HLow2 : Hid (Offs (fun b => b = g2) ao) := fun b off q e he => by
   have he : b = g2 := he
   have hz := HH2.out.here
   rcases hO.2 with ⟨e0, _⟩ | ⟨g, cap, cur, e0, hb, _⟩
   ·rw [e7] at e0
    injection e0 with a1 a2 a3
    rw [a1] at e; cases e
   ·rw [e7] at e0
    injection e0 with a1 a2 a3
    rw [a1] at e; cases e
    omega
  have HAny : Hid ((ao = none ∧ p.length = 0 ∧ c = 0) ∨ ∃ a, ao = some a) := by
   rcases hO.2 with ⟨e0, h0⟩ | ⟨g, cap, cur, e0, hb, _⟩
   ·rw [e7] at e0
    injection e0 with a1 a2 a3
    exact .inl ⟨a1, h0, a3⟩
   ·rw [e7] at e0
    injection e0 with a1 a2 a3
    exact .inr ⟨_, a1⟩
  obtain ⟨q, eq⟩ : ∃ q, p.length = q := ⟨_, rfl⟩
  rw [eq] at HHs
  have EQ := hid eq
  simp only [RF.AG, Act.put, List.setIfInBounds_toArray, List.set_cons_succ, List.set_cons_zero]
  clear hR hM hH hO e7 hls hlow HHs0 p0 d0 d1 d2 l3 z31 eq
  have y0 : u.cell? ⟨g3, 0, none⟩ = some (.int .i64 2) := HHs.out.at_ 0
  have y1 : u.cell? ⟨g3, 1, none⟩ = some (.int .i64 0) := HHs.out.at_ 1
  have y2 : u.cell? ⟨g3, 2, none⟩ = some (.slice ao q c) := HHs.out.at_ 2
  have v0 : u.cell? ⟨g2, 0, none⟩ = some (.int .i64 0) := HHr.out.at_ 0
  have v1 : u.cell? ⟨g2, 1, none⟩ = some (.int .i64 0) := HHr.out.at_ 1
  have v2 : u.cell? ⟨g2, 2, none⟩ = some (.slice none 0 0) := HHr.out.at_ 2
  have f0 := HHr.out.free 0
  have f1 := HHr.out.free 1
  have f2 := HHr.out.free 2
  have lr := HHr.out.here
  go_wp2_with fail
  obtain ⟨V3, eV3⟩ : ∃ z, z = ((u.setCell ⟨g2, 0, none⟩ (.int .i64 2)).setCell ⟨g2, 1, none⟩ (.int .i64 0)).setCell ⟨g2, 2, none⟩ (.slice ao q c) := ⟨_, rfl⟩
  have r0 : (((u.setCell ⟨g2, 0, none⟩ (.int .i64 2)).setCell ⟨g2, 1, none⟩ (.int .i64 0)).setCell ⟨g2, 2, none⟩ (.slice ao q c)).cell? ⟨g2, 0, none⟩ = some (.int .i64 2) := by go_simp
  have r1 : (((u.setCell ⟨g2, 0, none⟩ (.int .i64 2)).setCell ⟨g2, 1, none⟩ (.int .i64 0)).setCell ⟨g2, 2, none⟩ (.slice ao q c)).cell? ⟨g2, 1, none⟩ = some (.int .i64 0) := by go_simp
  have r2 : (((u.setCell ⟨g2, 0, none⟩ (.int .i64 2)).setCell ⟨g2, 1, none⟩ (.int .i64 0)).setCell ⟨g2, 2, none⟩ (.slice ao q c)).cell? ⟨g2, 2, none⟩ = some (.slice ao q c) := by go_simp
  have kk : But (fun b => b = g2) u (((u.setCell ⟨g2, 0, none⟩ (.int .i64 2)).setCell ⟨g2, 1, none⟩ (.int .i64 0)).setCell ⟨g2, 2, none⟩ (.slice ao q c)) := (((But.rfl_ (fun b => b = g2) _).put (p := ⟨g2, 0, none⟩) (.inl rfl) _).put (p := ⟨g2, 1, none⟩) (.inl rfl) _).put (p := ⟨g2, 2, none⟩) (.inl rfl) _
  refine bodyPost_ret (v := .agg #[.int .i64 2, .int .i64 0, .slice ao q c]) (by simp [results, Tryz.results74, go_sem, r0, r1, r2]) rfl ⟨_, rfl, ?_, ?_, ?_⟩
  ·rw [HD.out]
   exact ⟨ao, c, by rw [EQ.out], Sl.but HSh.out kk HLow2.out, HLow.out, HAny.out⟩
  ·rw [HD.out]
   exact HR3.out.but kk (fun b e => by have : b = g2 := e; have := HB.out; have := HG1.out; have := HG2.out; omega)
  ·exact K4.out.then_' kk (fun b e => .inr (by have : b = g2 := e; have := HG1.out; have := HG2.out; omega))
theorem rshape_c {pb B : Nat} {s : Rs} {w : World} (h : Rd w pb B s) (hs : RsOk s) (hB : B ≤ w.heap.size) :
  Calls Tryz.prog 74 #[rdV pb] w fun e w' => ∃ x, e = .returned x ∧ ShAt w w' x (dS s).1 ∧ Rd w' pb B (dS s).2 ∧ But (fun b => b = pb) w w' := by
 by_cases h1 : (dN 1 s).1 = 1
 ·exact rshape1_c h hs hB h1
 ·by_cases h2 : (dN 1 s).1 = 2
  ·exact rshape2_c h hs hB h2
  ·exact rshape0_c h hs hB rfl h1 h2
end Go.Proofs.YtgdcphmmehedoaaGreat.Fx