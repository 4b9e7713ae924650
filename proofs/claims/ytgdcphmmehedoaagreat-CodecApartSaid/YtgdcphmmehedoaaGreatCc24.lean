/- CoR -/
import Derived.Test.YtgdcphmmehedoaaGreatCc23
set_option maxRecDepth 100000
set_option maxHeartbeats 64000000
/- Package codec: codec.ReadWorld of an empty world's bytes. -/
namespace Go.Proofs.YtgdcphmmehedoaaGreat.Fx
open Go.ChangeShapes Go.WideShapes Go.ChangeAt Go.RowKit
set_option linter.unusedVariables false
theorem rbodies0_c {pb B : Nat} {l : List Nat} {v : Value} {w : World} (h : Rd w pb B (some l)) : Calls Tryz.prog 62 #[rdV pb, .int .i64 0, v] w fun e w' => e = .returned (.slice none 0 0) ∧ Rd w' pb B (some l) ∧ But (fun b => b = pb) w w' := by
 have KA : Hid (Made w.heap.size w (w.alloc (.cells #[.pointer (some ⟨pb, 0, none⟩)] 88))) := (Made.rfl_ _ _).cells (Nat.le_refl _) _ _
 have HR := hid (h.kept KA.out)
 clear h
 go_enter Tryz.func62, Tryz.ntmps62
 go_wp2_with fail
 go_loopg [7] 0 (fun gg s7 wx => s7 = .slice none 0 0 ∧ Hid (Rd wx pb B (some l)) ∧ Hid (But (fun b => b = pb) w wx))
 case atStart => exact ⟨rfl, HR.out, Made.but KA.out⟩
 case round =>
  obtain ⟨rfl, HR1, HM⟩ := hrel
  go_wp2_with fail
  go_ret
  exact ⟨rfl, HR1.out, HM.out⟩
theorem rjoints0_c {pb B : Nat} {l : List Nat} {v : Value} {w : World} (h : Rd w pb B (some l)) : Calls Tryz.prog 64 #[rdV pb, .int .i64 0, v] w fun e w' => e = .returned (.slice none 0 0) ∧ Rd w' pb B (some l) ∧ But (fun b => b = pb) w w' := by
 have KA : Hid (Made w.heap.size w (w.alloc (.cells #[.pointer (some ⟨pb, 0, none⟩)] 88))) := (Made.rfl_ _ _).cells (Nat.le_refl _) _ _
 have HR := hid (h.kept KA.out)
 clear h
 go_enter Tryz.func64, Tryz.ntmps64
 go_wp2_with fail
 go_loopg [7] 0 (fun gg s7 wx => s7 = .slice none 0 0 ∧ Hid (Rd wx pb B (some l)) ∧ Hid (But (fun b => b = pb) w wx))
 case atStart => exact ⟨rfl, HR.out, Made.but KA.out⟩
 case round =>
  obtain ⟨rfl, HR1, HM⟩ := hrel
  go_wp2_with fail
  go_ret
  exact ⟨rfl, HR1.out, HM.out⟩
theorem rcontacts0_c {pb B : Nat} {l : List Nat} {v : Value} {w : World} (h : Rd w pb B (some l)) : Calls Tryz.prog 66 #[rdV pb, .int .i64 0, v] w fun e w' => e = .returned (.slice none 0 0) ∧ Rd w' pb B (some l) ∧ But (fun b => b = pb) w w' := by
 have KA : Hid (Made w.heap.size w (w.alloc (.cells #[.pointer (some ⟨pb, 0, none⟩)] 88))) := (Made.rfl_ _ _).cells (Nat.le_refl _) _ _
 have HR := hid (h.kept KA.out)
 clear h
 go_enter Tryz.func66, Tryz.ntmps66
 go_wp2_with fail
 go_loopg [7] 0 (fun gg s7 wx => s7 = .slice none 0 0 ∧ Hid (Rd wx pb B (some l)) ∧ Hid (But (fun b => b = pb) w wx))
 case atStart => exact ⟨rfl, HR.out, Made.but KA.out⟩
 case round =>
  obtain ⟨rfl, HR1, HM⟩ := hrel
  go_wp2_with fail
  go_ret
  exact ⟨rfl, HR1.out, HM.out⟩
def e10 : List Nat := []
def e9 : List Nat := nb 4 0 ++ e10
def e7 : List Nat := nb 2 0 ++ e9
def e5 : List Nat := nb 2 0 ++ e7
def e4 : List Nat := nb 8 0 ++ (nb 8 0 ++ e5)
def e3 : List Nat := nb 8 1 ++ e4
def e2 : List Nat := nb 8 1 ++ e3
def e1 : List Nat := nb 8 0 ++ e2
theorem e1_is : wdB 0 1 1 0 0 [] [] [] = e1 := by
 unfold wdB e1 e2 e3 e4 e5 e7 e9 e10
 simp only [List.append_assoc, List.flatMap_nil, List.append_nil, List.length_nil]
 rfl
theorem i0 : I64 0 := by unfold I64; omega
theorem i1 : I64 1 := by unfold I64; omega
theorem lt_e : ∀ b ∈ e1, b < 256 := by
 intro b hb
 unfold e1 e2 e3 e4 e5 e7 e9 e10 at hb
 simp only [List.mem_append, List.not_mem_nil, or_false] at hb
 rcases hb with h | h | h | h | h | h | h | h <;> exact nb_lt h
theorem e_lt {l k : List Nat} (h : ∀ b ∈ l ++ k, b < 256) : ∀ b ∈ k, b < 256 := fun b hb => h b (List.mem_append_right _ hb)
theorem lt_2 : ∀ b ∈ e2, b < 256 := e_lt (l := nb 8 0) lt_e
theorem lt_3 : ∀ b ∈ e3, b < 256 := e_lt (l := nb 8 1) lt_2
theorem lt_4 : ∀ b ∈ e4, b < 256 := e_lt (l := nb 8 1) lt_3
theorem lt_5 : ∀ b ∈ e5, b < 256 := e_lt (l := nb 8 0) (e_lt (l := nb 8 0) lt_4)
theorem lt_7 : ∀ b ∈ e7, b < 256 := e_lt (l := nb 2 0) lt_5
theorem lt_9 : ∀ b ∈ e9, b < 256 := e_lt (l := nb 2 0) lt_7
theorem dC0 (l : List Nat) : dC 1024 (some (nb 2 0 ++ l)) = (0, some l) := by
 unfold dC
 rw [dN_nb 2 (by omega) 0 (by omega) (by omega), if_neg (by simp only []; omega)]
theorem creadworld0_c {c n : Nat} {ao : Option Addr} {w : World} (hA : By w ao n (gl e1)) (hn : e1.length = n) :
  Calls Tryz.prog 23 #[.slice ao n c] w fun e w' => e = .returned (.tuple #[wd0, .int .i64 0]) ∧ Made w.heap.size w w' := by
 have hl : n ≤ 1000 := by rw [← hn]; unfold e1 e2 e3 e4 e5 e7 e9 e10; simp only [List.length_append, nb_len, List.length_nil]; omega
 obtain ⟨W0, eW0⟩ : ∃ W, W = w.alloc (.cells #[.int .i64 0, .int .i64 0, .int .i64 0, .int .i64 0, .int .i64 0, .slice none 0 0, .slice none 0 0, .slice none 0 0] 56) := ⟨_, rfl⟩
 have K0 : Hid (Made w.heap.size w W0) := by unfold Hid; rw [eW0]; exact (Made.rfl_ _ _).cells (Nat.le_refl _) _ _
 obtain ⟨g2, eg2⟩ : ∃ g, w.heap.size = g := ⟨_, rfl⟩
 have HG2 := hid eg2
 have HZ0 : Hid (Has W0 g2 56 #[.int .i64 0, .int .i64 0, .int .i64 0, .int .i64 0, .int .i64 0, .slice none 0 0, .slice none 0 0, .slice none 0 0]) := by unfold Hid; rw [eW0, ← eg2]; exact has_new _ _ _
 have HNew := hid (pnew_c (c := c) (hA.kept K0.out) (by omega : n ≤ 1099511627776))
 have HN := hid hn
 clear hA hn
 go_enter Tryz.func23, Tryz.ntmps23
 go_upto_region 1 with fail
 rw [← eW0]
 clear eW0
 try rw [eg2]
 clear eg2
 go_wp2_with fail
 refine HNew.out.mono ?_
 rintro e w1 ⟨pb, ao1, c1, rfl, hpb, hRe, hM1⟩
 have hpl : pb < w1.heap.size := hRe.here
 have HR1 : Hid (Rd w1 pb w1.heap.size (some e1)) := by
  refine ⟨hpl, ao1, c1, by rw [HN.out]; exact hRe, fun h0 b off e => ?_⟩
  obtain ⟨b', off', e', hc⟩ := hRe.by_ (by rw [← HN.out]; exact h0)
  rw [e] at e'
  cases e'
  exact World.block_lt_of_cell? (a := ⟨b, off + 0, none⟩) w1 (hc 0 (by rw [← HN.out]; exact h0))
 have HP : Hid (W0.heap.size ≤ pb) := hpb
 have HM1 := hid hM1
 obtain ⟨B, eB⟩ : ∃ B, w1.heap.size = B := ⟨_, rfl⟩
 obtain ⟨W, eW⟩ : ∃ W, W = w1.alloc (.cells #[.pointer (some ⟨pb, 0, none⟩)] 88) := ⟨_, rfl⟩
 have KW : Hid (Made w1.heap.size w1 W) := by unfold Hid; rw [eW]; exact (Made.rfl_ _ _).cells (Nat.le_refl _) _ _
 have HH : Hid (Has W B 88 #[.pointer (some ⟨pb, 0, none⟩)]) := by unfold Hid; rw [eW, ← eB]; exact has_new _ _ _
 have HRW := hid (HR1.out.kept KW.out)
 have HMW : Hid (Made W0.heap.size W0 W) := HM1.out.then_ (KW.out.low HM1.out.1.size)
 have HZW : Hid (Has W g2 56 #[.int .i64 0, .int .i64 0, .int .i64 0, .int .i64 0, .int .i64 0, .slice none 0 0, .slice none 0 0, .slice none 0 0]) := HZ0.out.stays HMW.out HZ0.out.here
 rw [eB] at HRW hpl
 have HBl : Hid (B ≤ W.heap.size ∧ W0.heap.size ≤ B ∧ g2 < W0.heap.size) := by unfold Hid; rw [← eB]; exact ⟨KW.out.1.size, HM1.out.1.size, HZ0.out.here⟩
 have HPB := hid hpl
 have p0 : W.cell? ⟨B, 0, none⟩ = some (.pointer (some ⟨pb, 0, none⟩)) := HH.out.at_ 0
 clear hRe hM1 hpb KW HR1 hpl HZ0
 go_upto_region 2 with fail
 rw [← eW]
 clear eW
 try rw [eB]
 clear eB HNew
 refine RF.reg_flow (fun s G u => Rd u pb B ([some e1, some e2, some e3, some e4, some e5, some e7, some e7, some e9, some e9, some e10, some e10].getD (s 0) none) ∧ But (fun b => b = pb) W u ∧ (1 ≤ s 1 → ∃ g, G 28 = .pointer (some ⟨g, 0, none⟩) ∧ W.heap.size ≤ g ∧ Has u g 56 (if s 1 < 2 then #[.int .i64 0, .int .i64 0, .int .i64 0, .int .i64 0, .int .i64 0, .slice none 0 0, .slice none 0 0, .slice none 0 0] else #[.int .i64 0, .int .i64 1, .int .i64 1, .int .i64 0, .int .i64 0, .slice none 0 0, .slice none 0 0, .slice none 0 0]))) [[2, 5, 8, 11, 15, 16, 20, 21, 25, 26], [28, 29]] [(28, 5)] [0, 1, 3, 4, 6, 7, 9, 10, 12, 13, 14, 17, 18, 19, 22, 23, 24, 27] [(11, .int .i64 0), (14, .int .i64 1), (17, .int .i64 1), (20, paV (0, 0)), (24, .int .i64 0), (25, .slice none 0 0), (29, .int .i64 0), (30, .slice none 0 0), (34, .int .i64 0), (35, .slice none 0 0)] 48 (by kernel_rfl) ⟨HRW.out.kept (made_draw _), Made.but (made_draw _), fun h => absurd h (by decide)⟩ (by kernel_rfl) rfl (by kernel_rfl) (by kernel_rfl) ?_
 apply Exists.intro
 refine ⟨?qa, ?qb, ?qc⟩
 case qa =>
  intro s G Ty hT f hf
  have z0 : ∀ x, (f x).cell? ⟨B, 0, none⟩ = some (.pointer (some ⟨pb, 0, none⟩)) := fun x => ((hf (f x)).2 ⟨x, rfl⟩).2.1.cell p0 (fun e => by have := HPB.out; have e : B = pb := e; omega)
  clear hf
  simp only [RF.putF, Act.put, List.setIfInBounds_toArray, List.set_cons_succ, List.set_cons_zero]
  change wpQuiet _ _ _ _ [_, _, _, _, _, _, _, _, _, _, _, _, _, _, _, _, _, _] _
  repeat (go_big_quiet_step (fail))
  exact wpQuiet_nil rfl
 case qb =>
  refine ⟨⟨?_, ?_, ?_, ?_, ?_, ?_, ?_, ?_, ?_, ?_, trivial⟩, ⟨?_, ?_, trivial⟩, trivial⟩
  ·intro s G u hC hk hw
   rw [show (execOp _ _).run Tryz.prog u = .ok (.enter 60 #[.pointer (some ⟨pb, 0, none⟩), .int .i64 8]) u by kernel_rfl]
   obtain ⟨hR, hM, hX⟩ := hC
   rw [hk] at hR
   have hR : Rd u pb B (some e1) := hR
   have hsz : B ≤ u.heap.size := Nat.le_trans HBl.out.1 hM.size
   have hcall : Calls Tryz.prog 60 #[.pointer (some ⟨pb, 0, none⟩), .int .i64 8] u fun e u' => e = .returned (.int .i64 0) ∧ Rd u' pb B (some e2) ∧ But (fun b => b = pb) u u' := (by have h := rN_c (m := 8) hR (rs_of lt_e) (by omega) (by omega); rw [show dN 8 (some e1) = (0, some e2) from dN_nb8 0 i0 _] at h; exact h)
   refine Calls.mono hcall ?_
   rintro e u' ⟨rfl, h1, h2⟩
   refine ⟨_, rfl, ⟨?_, hM.then_ h2, fun h => ?_⟩, .inr fun d e => by cases e; rfl⟩
   ·rw [RF.upd_same]; exact h1
   ·rw [RF.upd_else _ _ (show (1 : Nat) ≠ 0 by decide)] at h ⊢
    obtain ⟨g, x1, x2, x3⟩ := hX h
    exact ⟨g, x1, x2, x3.but h2 (fun e => by have e : g = pb := e; have := HPB.out; have := HBl.out; omega)⟩
  ·intro s G u hC hk hw
   rw [show (execOp _ _).run Tryz.prog u = .ok (.enter 60 #[.pointer (some ⟨pb, 0, none⟩), .int .i64 8]) u by kernel_rfl]
   obtain ⟨hR, hM, hX⟩ := hC
   rw [hk] at hR
   have hR : Rd u pb B (some e2) := hR
   have hsz : B ≤ u.heap.size := Nat.le_trans HBl.out.1 hM.size
   have hcall : Calls Tryz.prog 60 #[.pointer (some ⟨pb, 0, none⟩), .int .i64 8] u fun e u' => e = .returned (.int .i64 1) ∧ Rd u' pb B (some e3) ∧ But (fun b => b = pb) u u' := (by have h := rN_c (m := 8) hR (rs_of lt_2) (by omega) (by omega); rw [show dN 8 (some e2) = (1, some e3) from dN_nb8 1 i1 _] at h; exact h)
   refine Calls.mono hcall ?_
   rintro e u' ⟨rfl, h1, h2⟩
   refine ⟨_, rfl, ⟨?_, hM.then_ h2, fun h => ?_⟩, .inr fun d e => by cases e; rfl⟩
   ·rw [RF.upd_same]; exact h1
   ·rw [RF.upd_else _ _ (show (1 : Nat) ≠ 0 by decide)] at h ⊢
    obtain ⟨g, x1, x2, x3⟩ := hX h
    exact ⟨g, x1, x2, x3.but h2 (fun e => by have e : g = pb := e; have := HPB.out; have := HBl.out; omega)⟩
  ·intro s G u hC hk hw
   rw [show (execOp _ _).run Tryz.prog u = .ok (.enter 60 #[.pointer (some ⟨pb, 0, none⟩), .int .i64 8]) u by kernel_rfl]
   obtain ⟨hR, hM, hX⟩ := hC
   rw [hk] at hR
   have hR : Rd u pb B (some e3) := hR
   have hsz : B ≤ u.heap.size := Nat.le_trans HBl.out.1 hM.size
   have hcall : Calls Tryz.prog 60 #[.pointer (some ⟨pb, 0, none⟩), .int .i64 8] u fun e u' => e = .returned (.int .i64 1) ∧ Rd u' pb B (some e4) ∧ But (fun b => b = pb) u u' := (by have h := rN_c (m := 8) hR (rs_of lt_3) (by omega) (by omega); rw [show dN 8 (some e3) = (1, some e4) from dN_nb8 1 i1 _] at h; exact h)
   refine Calls.mono hcall ?_
   rintro e u' ⟨rfl, h1, h2⟩
   refine ⟨_, rfl, ⟨?_, hM.then_ h2, fun h => ?_⟩, .inr fun d e => by cases e; rfl⟩
   ·rw [RF.upd_same]; exact h1
   ·rw [RF.upd_else _ _ (show (1 : Nat) ≠ 0 by decide)] at h ⊢
    obtain ⟨g, x1, x2, x3⟩ := hX h
    exact ⟨g, x1, x2, x3.but h2 (fun e => by have e : g = pb := e; have := HPB.out; have := HBl.out; omega)⟩
  ·intro s G u hC hk hw
   rw [show (execOp _ _).run Tryz.prog u = .ok (.enter 61 #[.pointer (some ⟨pb, 0, none⟩)]) u by kernel_rfl]
   obtain ⟨hR, hM, hX⟩ := hC
   rw [hk] at hR
   have hR : Rd u pb B (some e4) := hR
   have hsz : B ≤ u.heap.size := Nat.le_trans HBl.out.1 hM.size
   have hcall : Calls Tryz.prog 61 #[.pointer (some ⟨pb, 0, none⟩)] u fun e u' => e = .returned (paV (0, 0)) ∧ Rd u' pb B (some e5) ∧ But (fun b => b = pb) u u' := (by have h := rV_c hR (rs_of lt_4) hsz; rw [show dV (some e4) = ((0, 0), some e5) from dV_of i0 i0 _] at h; exact h)
   refine Calls.mono hcall ?_
   rintro e u' ⟨rfl, h1, h2⟩
   refine ⟨_, rfl, ⟨?_, hM.then_ h2, fun h => ?_⟩, .inr fun d e => by cases e; rfl⟩
   ·rw [RF.upd_same]; exact h1
   ·rw [RF.upd_else _ _ (show (1 : Nat) ≠ 0 by decide)] at h ⊢
    obtain ⟨g, x1, x2, x3⟩ := hX h
    exact ⟨g, x1, x2, x3.but h2 (fun e => by have e : g = pb := e; have := HPB.out; have := HBl.out; omega)⟩
  ·intro s G u hC hk hw
   rw [show (execOp _ _).run Tryz.prog u = .ok (.enter 29 #[.pointer (some ⟨pb, 0, none⟩), .int .i64 1024]) u by kernel_rfl]
   obtain ⟨hR, hM, hX⟩ := hC
   rw [hk] at hR
   have hR : Rd u pb B (some e5) := hR
   have hsz : B ≤ u.heap.size := Nat.le_trans HBl.out.1 hM.size
   have hcall : Calls Tryz.prog 29 #[.pointer (some ⟨pb, 0, none⟩), .int .i64 1024] u fun e u' => e = .returned (.int .i64 0) ∧ Rd u' pb B (some e7) ∧ But (fun b => b = pb) u u' := (by have h := rC_c (most := 1024) hR (rs_of lt_5); rw [show dC 1024 (some e5) = (0, some e7) from dC0 _] at h; exact h)
   refine Calls.mono hcall ?_
   rintro e u' ⟨rfl, h1, h2⟩
   refine ⟨_, rfl, ⟨?_, hM.then_ h2, fun h => ?_⟩, .inr fun d e => by cases e; rfl⟩
   ·rw [RF.upd_same]; exact h1
   ·rw [RF.upd_else _ _ (show (1 : Nat) ≠ 0 by decide)] at h ⊢
    obtain ⟨g, x1, x2, x3⟩ := hX h
    exact ⟨g, x1, x2, x3.but h2 (fun e => by have e : g = pb := e; have := HPB.out; have := HBl.out; omega)⟩
  ·intro s G u hC hk hw
   rw [show (execOp _ _).run Tryz.prog u = .ok (.enter 62 #[rdV pb, .int .i64 0, .func (.func 63) #[] #[]]) u by kernel_rfl]
   obtain ⟨hR, hM, hX⟩ := hC
   rw [hk] at hR
   have hR : Rd u pb B (some e7) := hR
   have hsz : B ≤ u.heap.size := Nat.le_trans HBl.out.1 hM.size
   have hcall : Calls Tryz.prog 62 #[rdV pb, .int .i64 0, .func (.func 63) #[] #[]] u fun e u' => e = .returned (.slice none 0 0) ∧ Rd u' pb B (some e7) ∧ But (fun b => b = pb) u u' := (rbodies0_c hR)
   refine Calls.mono hcall ?_
   rintro e u' ⟨rfl, h1, h2⟩
   refine ⟨_, rfl, ⟨?_, hM.then_ h2, fun h => ?_⟩, .inr fun d e => by cases e; rfl⟩
   ·rw [RF.upd_same]; exact h1
   ·rw [RF.upd_else _ _ (show (1 : Nat) ≠ 0 by decide)] at h ⊢
    obtain ⟨g, x1, x2, x3⟩ := hX h
    exact ⟨g, x1, x2, x3.but h2 (fun e => by have e : g = pb := e; have := HPB.out; have := HBl.out; omega)⟩
  ·intro s G u hC hk hw
   rw [show (execOp _ _).run Tryz.prog u = .ok (.enter 29 #[.pointer (some ⟨pb, 0, none⟩), .int .i64 1024]) u by kernel_rfl]
   obtain ⟨hR, hM, hX⟩ := hC
   rw [hk] at hR
   have hR : Rd u pb B (some e7) := hR
   have hsz : B ≤ u.heap.size := Nat.le_trans HBl.out.1 hM.size
   have hcall : Calls Tryz.prog 29 #[.pointer (some ⟨pb, 0, none⟩), .int .i64 1024] u fun e u' => e = .returned (.int .i64 0) ∧ Rd u' pb B (some e9) ∧ But (fun b => b = pb) u u' := (by have h := rC_c (most := 1024) hR (rs_of lt_7); rw [show dC 1024 (some e7) = (0, some e9) from dC0 _] at h; exact h)
   refine Calls.mono hcall ?_
   rintro e u' ⟨rfl, h1, h2⟩
   refine ⟨_, rfl, ⟨?_, hM.then_ h2, fun h => ?_⟩, .inr fun d e => by cases e; rfl⟩
   ·rw [RF.upd_same]; exact h1
   ·rw [RF.upd_else _ _ (show (1 : Nat) ≠ 0 by decide)] at h ⊢
    obtain ⟨g, x1, x2, x3⟩ := hX h
    exact ⟨g, x1, x2, x3.but h2 (fun e => by have e : g = pb := e; have := HPB.out; have := HBl.out; omega)⟩
  ·intro s G u hC hk hw
   rw [show (execOp _ _).run Tryz.prog u = .ok (.enter 64 #[rdV pb, .int .i64 0, .func (.func 65) #[] #[]]) u by kernel_rfl]
   obtain ⟨hR, hM, hX⟩ := hC
   rw [hk] at hR
   have hR : Rd u pb B (some e9) := hR
   have hsz : B ≤ u.heap.size := Nat.le_trans HBl.out.1 hM.size
   have hcall : Calls Tryz.prog 64 #[rdV pb, .int .i64 0, .func (.func 65) #[] #[]] u fun e u' => e = .returned (.slice none 0 0) ∧ Rd u' pb B (some e9) ∧ But (fun b => b = pb) u u' := (rjoints0_c hR)
   refine Calls.mono hcall ?_
   rintro e u' ⟨rfl, h1, h2⟩
   refine ⟨_, rfl, ⟨?_, hM.then_ h2, fun h => ?_⟩, .inr fun d e => by cases e; rfl⟩
   ·rw [RF.upd_same]; exact h1
   ·rw [RF.upd_else _ _ (show (1 : Nat) ≠ 0 by decide)] at h ⊢
    obtain ⟨g, x1, x2, x3⟩ := hX h
    exact ⟨g, x1, x2, x3.but h2 (fun e => by have e : g = pb := e; have := HPB.out; have := HBl.out; omega)⟩
  ·intro s G u hC hk hw
   rw [show (execOp _ _).run Tryz.prog u = .ok (.enter 60 #[.pointer (some ⟨pb, 0, none⟩), .int .i64 4]) u by kernel_rfl]
   obtain ⟨hR, hM, hX⟩ := hC
   rw [hk] at hR
   have hR : Rd u pb B (some e9) := hR
   have hsz : B ≤ u.heap.size := Nat.le_trans HBl.out.1 hM.size
   have hcall : Calls Tryz.prog 60 #[.pointer (some ⟨pb, 0, none⟩), .int .i64 4] u fun e u' => e = .returned (.int .i64 0) ∧ Rd u' pb B (some e10) ∧ But (fun b => b = pb) u u' := (by have h := rN_c (m := 4) hR (rs_of lt_9) (by omega) (by omega); rw [show dN 4 (some e9) = (0, some e10) from dN_nb 4 (by omega) 0 (by omega) (by omega) _] at h; exact h)
   refine Calls.mono hcall ?_
   rintro e u' ⟨rfl, h1, h2⟩
   refine ⟨_, rfl, ⟨?_, hM.then_ h2, fun h => ?_⟩, .inr fun d e => by cases e; rfl⟩
   ·rw [RF.upd_same]; exact h1
   ·rw [RF.upd_else _ _ (show (1 : Nat) ≠ 0 by decide)] at h ⊢
    obtain ⟨g, x1, x2, x3⟩ := hX h
    exact ⟨g, x1, x2, x3.but h2 (fun e => by have e : g = pb := e; have := HPB.out; have := HBl.out; omega)⟩
  ·intro s G u hC hk hw
   rw [show (execOp _ _).run Tryz.prog u = .ok (.enter 66 #[rdV pb, .int .i64 0, .func (.func 67) #[] #[]]) u by kernel_rfl]
   obtain ⟨hR, hM, hX⟩ := hC
   rw [hk] at hR
   have hR : Rd u pb B (some e10) := hR
   have hsz : B ≤ u.heap.size := Nat.le_trans HBl.out.1 hM.size
   have hcall : Calls Tryz.prog 66 #[rdV pb, .int .i64 0, .func (.func 67) #[] #[]] u fun e u' => e = .returned (.slice none 0 0) ∧ Rd u' pb B (some e10) ∧ But (fun b => b = pb) u u' := (rcontacts0_c hR)
   refine Calls.mono hcall ?_
   rintro e u' ⟨rfl, h1, h2⟩
   refine ⟨_, rfl, ⟨?_, hM.then_ h2, fun h => ?_⟩, .inr fun d e => by cases e; rfl⟩
   ·rw [RF.upd_same]; exact h1
   ·rw [RF.upd_else _ _ (show (1 : Nat) ≠ 0 by decide)] at h ⊢
    obtain ⟨g, x1, x2, x3⟩ := hX h
    exact ⟨g, x1, x2, x3.but h2 (fun e => by have e : g = pb := e; have := HPB.out; have := HBl.out; omega)⟩
  ·intro s G u hC hk hw
   rw [show (execOp _ _).run Tryz.prog u = .ok (.value (.pointer (some ⟨u.heap.size, 0, none⟩))) (u.alloc (.cells #[.int .i64 0, .int .i64 0, .int .i64 0, .int .i64 0, .int .i64 0, .slice none 0 0, .slice none 0 0, .slice none 0 0] 56)) by kernel_rfl]
   obtain ⟨hR, hM, hX⟩ := hC
   have km : Made u.heap.size u (u.alloc (.cells #[.int .i64 0, .int .i64 0, .int .i64 0, .int .i64 0, .int .i64 0, .slice none 0 0, .slice none 0 0, .slice none 0 0] 56)) := (Made.rfl_ _ _).cells (Nat.le_refl _) _ _
   refine ⟨⟨?_, hM.via km, fun h => ⟨u.heap.size, ?_, hM.size, ?_⟩⟩, .inl rfl⟩
   ·rw [RF.upd_else _ _ (show (0 : Nat) ≠ 1 by decide)]; exact hR.kept km
   ·rfl
   ·rw [RF.upd_same, if_pos (by decide)]; exact has_new _ _ _
  ·intro s G u hC hk hw
   obtain ⟨hR, hM, hX⟩ := hC
   obtain ⟨g, x1, x2, x3⟩ := hX (by rw [hk]; exact Nat.le_refl 1)
   rw [hk, if_pos (by decide)] at x3
   have lu := x3.here
   have q0 : u.cell? ⟨g, 0, none⟩ = some (.int .i64 0) := x3.at_ 0
   have zz0 := x3.free 0
   have q1 : u.cell? ⟨g, 1, none⟩ = some (.int .i64 0) := x3.at_ 1
   have zz1 := x3.free 1
   have q2 : u.cell? ⟨g, 2, none⟩ = some (.int .i64 0) := x3.at_ 2
   have zz2 := x3.free 2
   have q3 : u.cell? ⟨g, 3, none⟩ = some (.int .i64 0) := x3.at_ 3
   have zz3 := x3.free 3
   have q4 : u.cell? ⟨g, 4, none⟩ = some (.int .i64 0) := x3.at_ 4
   have zz4 := x3.free 4
   have q5 : u.cell? ⟨g, 5, none⟩ = some (.slice none 0 0) := x3.at_ 5
   have zz5 := x3.free 5
   have q6 : u.cell? ⟨g, 6, none⟩ = some (.slice none 0 0) := x3.at_ 6
   have zz6 := x3.free 6
   have q7 : u.cell? ⟨g, 7, none⟩ = some (.slice none 0 0) := x3.at_ 7
   have zz7 := x3.free 7
   have x1 : G 28 = .pointer (some ⟨g, 0, none⟩) := x1
   rw [show (execOp _ _).run Tryz.prog u = .ok .skip ((((((((u.setCell ⟨g, 0, none⟩ (.int .i64 0)).setCell ⟨g, 1, none⟩ (.int .i64 1)).setCell ⟨g, 2, none⟩ (.int .i64 1)).setCell ⟨g, 3, none⟩ (.int .i64 0)).setCell ⟨g, 4, none⟩ (.int .i64 0)).setCell ⟨g, 5, none⟩ (.slice none 0 0)).setCell ⟨g, 6, none⟩ (.slice none 0 0)).setCell ⟨g, 7, none⟩ (.slice none 0 0)) by
    simp only [RF.AG, Act.put, List.setIfInBounds_toArray, List.set_cons_succ, List.set_cons_zero]
    rw [x1]
    go_simp]
   have kr : But (fun b => b = g) u ((((((((u.setCell ⟨g, 0, none⟩ (.int .i64 0)).setCell ⟨g, 1, none⟩ (.int .i64 1)).setCell ⟨g, 2, none⟩ (.int .i64 1)).setCell ⟨g, 3, none⟩ (.int .i64 0)).setCell ⟨g, 4, none⟩ (.int .i64 0)).setCell ⟨g, 5, none⟩ (.slice none 0 0)).setCell ⟨g, 6, none⟩ (.slice none 0 0)).setCell ⟨g, 7, none⟩ (.slice none 0 0)) := (((((((((But.rfl_ (fun b => b = g) _).put (p := ⟨g, 0, none⟩) (.inl rfl) _).put (p := ⟨g, 1, none⟩) (.inl rfl) _).put (p := ⟨g, 2, none⟩) (.inl rfl) _).put (p := ⟨g, 3, none⟩) (.inl rfl) _).put (p := ⟨g, 4, none⟩) (.inl rfl) _).put (p := ⟨g, 5, none⟩) (.inl rfl) _).put (p := ⟨g, 6, none⟩) (.inl rfl) _).put (p := ⟨g, 7, none⟩) (.inl rfl) _)
   refine ⟨rfl, ⟨?_, hM.then_' kr (fun b e => .inr (by have e : b = g := e; omega)), fun h => ⟨g, x1, x2, ?_⟩⟩⟩
   ·rw [RF.upd_else _ _ (show (0 : Nat) ≠ 1 by decide)]
    exact hR.but kr (fun b e => by have e : b = g := e; have := HBl.out; omega)
   ·rw [RF.upd_same, if_neg (by decide)]
    have h := (((((((x3.put 0 (.int .i64 0)).put 1 (.int .i64 1)).put 2 (.int .i64 1)).put 3 (.int .i64 0)).put 4 (.int .i64 0)).put 5 (.slice none 0 0)).put 6 (.slice none 0 0)).put 7 (.slice none 0 0)
    simp only [List.setIfInBounds_toArray, List.set_cons_succ, List.set_cons_zero] at h
    exact h
 case qc =>
  intro G u hu
  obtain ⟨hR, hM, hX⟩ := hu
  obtain ⟨g, x1, x2, x3⟩ := hX (show 1 ≤ 2 by decide)
  have x3 : Has u g 56 #[.int .i64 0, .int .i64 1, .int .i64 1, .int .i64 0, .int .i64 0, .slice none 0 0, .slice none 0 0, .slice none 0 0] := x3
  have HX3 := hid x3
  have x1 : G 28 = .pointer (some ⟨g, 0, none⟩) := x1
  have HRz : Hid (Rd u pb B (some e10)) := hR
  have HMz : Hid (Made W0.heap.size W0 u) := But.made_ HMW.out hM (by have := HBl.out; omega) (fun b e => by have e : b = pb := e; have := HP.out; omega)
  have HZu : Hid (Has u g2 56 #[.int .i64 0, .int .i64 0, .int .i64 0, .int .i64 0, .int .i64 0, .slice none 0 0, .slice none 0 0, .slice none 0 0]) := HZW.out.but hM (fun e => by have e : g2 = pb := e; have := HP.out; have := HBl.out; omega)
  have c4 : u.cell? ⟨B, 0, none⟩ = some (.pointer (some ⟨pb, 0, none⟩)) := hM.cell p0 (fun e => by have := HPB.out; have e : B = pb := e; omega)
  simp only [RF.AG, Act.put, List.setIfInBounds_toArray, List.set_cons_succ, List.set_cons_zero]
  rw [x1]
  have HDo := hid (rD_c HRz.out)
  have q0 : u.cell? ⟨g, 0, none⟩ = some (.int .i64 0) := HX3.out.at_ 0
  have q1 : u.cell? ⟨g, 1, none⟩ = some (.int .i64 1) := HX3.out.at_ 1
  have q2 : u.cell? ⟨g, 2, none⟩ = some (.int .i64 1) := HX3.out.at_ 2
  have q3 : u.cell? ⟨g, 3, none⟩ = some (.int .i64 0) := HX3.out.at_ 3
  have q4 : u.cell? ⟨g, 4, none⟩ = some (.int .i64 0) := HX3.out.at_ 4
  have q5 : u.cell? ⟨g, 5, none⟩ = some (.slice none 0 0) := HX3.out.at_ 5
  have q6 : u.cell? ⟨g, 6, none⟩ = some (.slice none 0 0) := HX3.out.at_ 6
  have q7 : u.cell? ⟨g, 7, none⟩ = some (.slice none 0 0) := HX3.out.at_ 7
  have HRight := hid (wright_c 0 1 1 0 0 none none none 0 0 0 0 0 0 (B := []) (J := []) (C := []) (w := u) true rfl (by omega) rfl (by omega) rfl (by omega) ⟨fun h => absurd h (by simp), fun h => absurd h (by simp), fun h => absurd h (by simp), fun b hb => (by cases hb), fun b hb => (by cases hb), fun b hb => (by cases hb)⟩ i0 i0 (iff_of_true rfl ⟨by omega, by unfold Inn; omega, by unfold Inn; omega, ⟨Nat.zero_le _, fun b hb => (by cases hb), ⟨by omega, by omega, List.Pairwise.nil, fun i hi => (by cases hi)⟩⟩, ⟨Nat.zero_le _, fun b hb => (by cases hb), ⟨by omega, by omega, List.Pairwise.nil, fun i hi => (by cases hi)⟩⟩, ⟨fun c hc => (by cases hc), List.Pairwise.nil⟩⟩))
  clear hR hM hX x1 x3 p0
  go_wp2_with fail
  refine HDo.out.mono ?_
  rintro e w4 ⟨rfl, rfl⟩
  go_wp2_with fail
  refine HRight.out.mono ?_
  rintro e w5 ⟨rfl, hM5⟩
  have HM5 : Hid (Made W0.heap.size W0 w5) := HMz.out.then_ (hM5.low HMz.out.1.size)
  have HX5 : Hid (Has w5 g 56 #[.int .i64 0, .int .i64 1, .int .i64 1, .int .i64 0, .int .i64 0, .slice none 0 0, .slice none 0 0, .slice none 0 0]) := HX3.out.stays hM5 HX3.out.here
  have HZ5 : Hid (Has w5 g2 56 #[.int .i64 0, .int .i64 0, .int .i64 0, .int .i64 0, .int .i64 0, .slice none 0 0, .slice none 0 0, .slice none 0 0]) := HZu.out.stays hM5 HZu.out.here
  clear hM5 q0 q1 q2 q3 q4 q5 q6 q7 c4
  go_wp2_with (first
   | refine wpList_load_row rfl 56 (.tmp 5) rfl g rfl 56 _ (0, 0) _ HX5.out Tryz.underlying56 rfl (by kernel_rfl) ?_
   | refine wpList_store_row rfl 56 (.tmp 2) (.tmp 47) rfl g2 #[.int .i64 0, .int .i64 1, .int .i64 1, .int .i64 0, .int .i64 0, .slice none 0 0, .slice none 0 0, .slice none 0 0] rfl rfl 56 _ HZ5.out (by kernel_rfl) rfl (by simp [Value.oneCell']) ?_)
  have hr := setRow_heap w5 g2 #[.int .i64 0, .int .i64 0, .int .i64 0, .int .i64 0, .int .i64 0, .slice none 0 0, .slice none 0 0, .slice none 0 0] #[.int .i64 0, .int .i64 1, .int .i64 1, .int .i64 0, .int .i64 0, .slice none 0 0, .slice none 0 0, .slice none 0 0] 56 (0, 0) HZ5.out
  have HRr : Has (w5.setRow g2 #[.int .i64 0, .int .i64 1, .int .i64 1, .int .i64 0, .int .i64 0, .slice none 0 0, .slice none 0 0, .slice none 0 0]) g2 56 #[.int .i64 0, .int .i64 1, .int .i64 1, .int .i64 0, .int .i64 0, .slice none 0 0, .slice none 0 0, .slice none 0 0] := hr
  have v0 : (w5.setRow g2 #[.int .i64 0, .int .i64 1, .int .i64 1, .int .i64 0, .int .i64 0, .slice none 0 0, .slice none 0 0, .slice none 0 0]).cell? ⟨g2, 0, none⟩ = some (.int .i64 0) := HRr.at_ 0
  have v1 : (w5.setRow g2 #[.int .i64 0, .int .i64 1, .int .i64 1, .int .i64 0, .int .i64 0, .slice none 0 0, .slice none 0 0, .slice none 0 0]).cell? ⟨g2, 1, none⟩ = some (.int .i64 1) := HRr.at_ 1
  have v2 : (w5.setRow g2 #[.int .i64 0, .int .i64 1, .int .i64 1, .int .i64 0, .int .i64 0, .slice none 0 0, .slice none 0 0, .slice none 0 0]).cell? ⟨g2, 2, none⟩ = some (.int .i64 1) := HRr.at_ 2
  have v3 : (w5.setRow g2 #[.int .i64 0, .int .i64 1, .int .i64 1, .int .i64 0, .int .i64 0, .slice none 0 0, .slice none 0 0, .slice none 0 0]).cell? ⟨g2, 3, none⟩ = some (.int .i64 0) := HRr.at_ 3
  have v4 : (w5.setRow g2 #[.int .i64 0, .int .i64 1, .int .i64 1, .int .i64 0, .int .i64 0, .slice none 0 0, .slice none 0 0, .slice none 0 0]).cell? ⟨g2, 4, none⟩ = some (.int .i64 0) := HRr.at_ 4
  have v5 : (w5.setRow g2 #[.int .i64 0, .int .i64 1, .int .i64 1, .int .i64 0, .int .i64 0, .slice none 0 0, .slice none 0 0, .slice none 0 0]).cell? ⟨g2, 5, none⟩ = some (.slice none 0 0) := HRr.at_ 5
  have v6 : (w5.setRow g2 #[.int .i64 0, .int .i64 1, .int .i64 1, .int .i64 0, .int .i64 0, .slice none 0 0, .slice none 0 0, .slice none 0 0]).cell? ⟨g2, 6, none⟩ = some (.slice none 0 0) := HRr.at_ 6
  have v7 : (w5.setRow g2 #[.int .i64 0, .int .i64 1, .int .i64 1, .int .i64 0, .int .i64 0, .slice none 0 0, .slice none 0 0, .slice none 0 0]).cell? ⟨g2, 7, none⟩ = some (.slice none 0 0) := HRr.at_ 7
  refine bodyPost_ret (v := .tuple #[wd0, .int .i64 0]) (by simp [results, Tryz.results23, go_sem, v0, v1, v2, v3, v4, v5, v6, v7]) rfl ⟨rfl, ?_⟩
  exact But.made_ (K0.out.then_ (HM5.out.low K0.out.1.size)) (But.row w5 g2 #[.int .i64 0, .int .i64 1, .int .i64 1, .int .i64 0, .int .i64 0, .slice none 0 0, .slice none 0 0, .slice none 0 0]) (by have := K0.out.1.size; have := HM5.out.1.size; omega) (fun b e => by have e : b = g2 := e; have := HG2.out; omega)
end Go.Proofs.YtgdcphmmehedoaaGreat.Fx