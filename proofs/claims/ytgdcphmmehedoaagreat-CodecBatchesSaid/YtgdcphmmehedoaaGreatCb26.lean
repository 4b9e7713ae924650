/- CoW OrP OrQ OrR OrMa -/
import Derived.Test.YtgdcphmmehedoaaGreatCb14
import Derived.Test.YtgdcphmmehedoaaGreatCb17
import Derived.Test.YtgdcphmmehedoaaGreatCb25
import Derived.Deep.DeepCutAuto
import Derived.Deep.CutBlock
set_option maxRecDepth 100000
set_option maxHeartbeats 64000000
/- Layer 15: the statements' own batch. -/
namespace Go.Proofs.YtgdcphmmehedoaaGreat.Fx
open Go.ChangeShapes Go.WideShapes Go.ChangeAt Go.RowKit
set_option linter.unusedVariables false
theorem lbatch_c {N cL : Nat} {L : List Or} {oL : Option Addr} {w0 : World} (hL : OrsAt w0 oL L) (hP : ∀ o ∈ L, OrderP o) (hn : L.length = N) (h64 : N ≤ 64) :
  Calls Tryz.prog 11 #[.slice oL N cL] w0 fun e w' => e = .returned (.string (strB (gl (batB L)) (batB L).length)) ∧ Made w0.heap.size w0 w' := by
 have H5 : Hid (∀ o ∈ L, o.n ≤ 255) := fun o ho => Nat.le_trans (orderP_n (hP o ho)) (by omega)
 have HPs := hid hP
 have HN := hid hn
 obtain ⟨pb, epb⟩ : ∃ g, w0.heap.size = g := ⟨_, rfl⟩
 obtain ⟨w, ew⟩ : ∃ W, W = w0.alloc (.cells #[Value.slice none 0 0] 69) := ⟨_, rfl⟩
 have K0 : Hid (Made w0.heap.size w0 w) := by unfold Hid; rw [ew]; exact (Made.rfl_ _ _).cells (Nat.le_refl _) _ _
 have HW0 : Hid (Wv w pb (.slice none 0 0) []) := by unfold Hid; rw [ew, ← epb]; exact Wv.new w0 _
 have HL : Hid (∀ u, Made pb w u → OrsAt u oL L) := fun u k => hL.kept (K0.out.then_ (k.low (Nat.le_of_eq epb)))
 have HLw : Hid (∀ o ∈ L, 0 < o.n → ∀ b off s, o.ao = some ⟨b, off, s⟩ → b < pb) := fun o ho h b off s e => by rw [← epb]; exact hL.low.2 o ho h b off s e
 have HPB := hid epb
 have hCn := hid (wnum_c (m := 2) (X := (N : Nat)) HW0.out (by omega) (by simp) (by omega) (by omega))
 clear hL hP hn
 go_enter Tryz.func11, Tryz.ntmps11
 go_upto_region 2 with fail
 rw [← ew]
 clear ew
 try rw [epb]
 clear epb
 go_wp2_with fail
 refine hCn.out.mono ?_
 rintro e w1 ⟨rfl, v1, hW1, hC1⟩
 have HW1' : Hid (Wv w1 pb v1 (nb 2 (N : Nat) ++ (L.take 0).flatMap orB)) := by
  unfold Hid
  rw [show (L.take 0).flatMap orB = [] from rfl, List.append_nil]
  simpa using hW1
 obtain ⟨v, ev⟩ : ∃ v, (Value.slice none 0 0) = v := ⟨_, rfl⟩
 have HC1' := hid hC1
 clear hW1 hC1
 rw [ev] at HC1' HW0
 clear ev
 go_wp2_with fail
 go_loopg [11] N (fun gg s11 wx => ∃ (j : Nat) (v2' : Value), j + gg = N ∧ s11 = .int .i64 (j : Nat) ∧ Hid (Wv wx pb v2' (nb 2 (N : Nat) ++ (L.take j).flatMap orB)) ∧ Hid (Wc pb w wx v v2'))
 case atStart => exact ⟨0, v1, by omega, by first | rfl | trivial, HW1'.out, HC1'.out⟩
 case round =>
  obtain ⟨j, v2', hj, rfl, HW2, HM2⟩ := hrel
  by_cases hlt : j < N
  ·obtain ⟨q, ea⟩ : ∃ a, L[j]? = some a := ⟨_, List.getElem?_eq_getElem (by rw [HN.out]; exact hlt)⟩
   have hmd := Wc.low HW0.out HM2.out
   have hor := HL.out wr hmd
   obtain ⟨bb, offb, rfl, hbl, hLB⟩ := hor.1 (by rw [HN.out]; omega)
   have hmem := List.mem_of_getElem? ea
   have HI := hid (hor.2 q hmem).1
   have HSx : Hid (∀ u, Made pb wr u → Sl u q.ao q.n q.f) := fun u k => ((HL.out u (hmd.then_ k)).2 q hmem).2.2
   have HLow := hid (HLw.out q hmem)
   have HA := hid ea
   have hq5 := H5.out q hmem
   have hPq := HPs.out q hmem
   have hcells := (hLB j _ ea).o15
   obtain ⟨C0, eC0⟩ : ∃ C, nb 2 (N : Nat) ++ (L.take j).flatMap orB = C := ⟨_, rfl⟩
   have hl2 : Hid (C0.length ≤ 8 + 4180 * 64) := by
    unfold Hid
    rw [← eC0, List.length_append, nb_len]
    have h := bat_len (L.take j) (fun o ho => H5.out o (List.mem_of_mem_take ho))
    have h2 : (L.take j).length ≤ 64 := by rw [List.length_take]; omega
    omega
   rw [eC0] at HW2
   have EC0 := hid eC0
   clear ea hLB hor hmem hmd eC0
   obtain ⟨kd, id, a, b, x, y, vx, vy, an, sp, de, ln, k, r, ao, n, c, f⟩ := q
   obtain ⟨a0, a1, a2, a3, a4, a5, a6, a7, a8, a9, a10, a11, a12, a13, a14⟩ := hcells
   have HPq := hid hPq
   simp only [] at a0 a1 a2 a3 a4 a5 a6 a7 a8 a9 a10 a11 a12 a13 a14 HSx HLow hq5
   have hd : (kd = 1 ∧ BodyP (bodyOr (⟨kd, id, a, b, x, y, vx, vy, an, sp, de, ln, k, r, ao, n, c, f⟩ : Or))) ∨ (kd = 2 ∨ kd = 4) ∨ kd = 3 ∨ kd = 5 ∨ kd = 6 := by
    rcases HPq.out with ⟨h, _, _, _, _, hB⟩ | ⟨h, _⟩ | ⟨h, _⟩ | ⟨h, _⟩ | ⟨h, _⟩
    ·exact .inl ⟨h, hB⟩
    ·exact .inr (.inl h)
    ·exact .inr (.inr (.inl h))
    ·exact .inr (.inr (.inr (.inl h)))
    ·exact .inr (.inr (.inr (.inr h)))
   clear hPq HPq
   obtain ⟨W, eW⟩ : ∃ W, W = wr.alloc (.cells #[.int .i64 kd, .int .i64 id, .int .i64 a, .int .i64 b, .int .i64 x, .int .i64 y, .int .i64 vx, .int .i64 vy, .int .i64 an, .int .i64 sp, .int .i64 de, .int .i64 ln, .int .i64 k, .int .i64 r, .slice ao n c] 49) := ⟨_, rfl⟩
   have KW : Hid (Made wr.heap.size wr W) := by unfold Hid; rw [eW]; exact (Made.rfl_ _ _).cells (Nat.le_refl _) _ _
   obtain ⟨g1, eg1⟩ : ∃ g, wr.heap.size = g := ⟨_, rfl⟩
   have HB : Hid (Has W g1 49 #[.int .i64 kd, .int .i64 id, .int .i64 a, .int .i64 b, .int .i64 x, .int .i64 y, .int .i64 vx, .int .i64 vy, .int .i64 an, .int .i64 sp, .int .i64 de, .int .i64 ln, .int .i64 k, .int .i64 r, .slice ao n c]) := by unfold Hid; rw [eW, ← eg1]; exact has_new _ _ _
   have HW1 := hid (HW2.out.kept KW.out)
   have HG : Hid (¬ OwnW pb v2' g1) := HW2.out.off (.inr (Nat.le_of_eq eg1))
   have b0 : W.cell? ⟨g1, 0, none⟩ = some (.int .i64 kd) := HB.out.at_ 0
   have HCk := hid (wnum_c (m := 1) (X := kd) HW1.out (by omega) (by have := hl2.out; omega) (by omega) (by omega))
   have HD := hid hd
   clear hd
   go_upto_region 6 with fail
   rw [← eW]
   clear eW
   try rw [eg1]
   clear eg1
   go_wp2_with fail
   refine HCk.out.mono ?_
   rintro e u2 ⟨rfl, v2, hv2, hc2⟩
   have HV2 : Hid (Wv u2 pb v2 (C0 ++ nb 1 kd)) := hv2
   have HC2 := hid hc2
   have HG2 := hid (hc2.offs HB.out.here HG.out)
   clear hv2 hc2 b0 a0 a1 a2 a3 a4 a5 a6 a7 a8 a9 a10 a11 a12 a13 a14
   rcases HD.out with ⟨rfl, hB⟩ | (rfl | rfl) | rfl | rfl | rfl
   ·have HP := hid hB
    clear hB
    have e0 : u2.cell? ⟨g1, 0, none⟩ = some (.int .i64 1) := HC2.out.but.cell (HB.out.at_ 0) HG.out
    have e4 : u2.cell? ⟨g1, 4, none⟩ = some (.int .i64 x) := HC2.out.but.cell (HB.out.at_ 4) HG.out
    have e5 : u2.cell? ⟨g1, 5, none⟩ = some (.int .i64 y) := HC2.out.but.cell (HB.out.at_ 5) HG.out
    have e6 : u2.cell? ⟨g1, 6, none⟩ = some (.int .i64 vx) := HC2.out.but.cell (HB.out.at_ 6) HG.out
    have e7 : u2.cell? ⟨g1, 7, none⟩ = some (.int .i64 vy) := HC2.out.but.cell (HB.out.at_ 7) HG.out
    have e8 : u2.cell? ⟨g1, 8, none⟩ = some (.int .i64 an) := HC2.out.but.cell (HB.out.at_ 8) HG.out
    have e9 : u2.cell? ⟨g1, 9, none⟩ = some (.int .i64 sp) := HC2.out.but.cell (HB.out.at_ 9) HG.out
    have e10 : u2.cell? ⟨g1, 10, none⟩ = some (.int .i64 de) := HC2.out.but.cell (HB.out.at_ 10) HG.out
    have e12 : u2.cell? ⟨g1, 12, none⟩ = some (.int .i64 k) := HC2.out.but.cell (HB.out.at_ 12) HG.out
    have e13 : u2.cell? ⟨g1, 13, none⟩ = some (.int .i64 r) := HC2.out.but.cell (HB.out.at_ 13) HG.out
    have e14 : u2.cell? ⟨g1, 14, none⟩ = some (.slice ao n c) := HC2.out.but.cell (HB.out.at_ 14) HG.out
    have K3 : Hid (Made u2.heap.size u2 (u2.alloc (.cells #[Value.int .i64 x, Value.int .i64 y, Value.int .i64 vx, Value.int .i64 vy, Value.int .i64 an, Value.int .i64 sp, Value.int .i64 de] 26))) := (Made.rfl_ _ _).cells (Nat.le_refl _) _ _
    have H3 : Hid (Has (u2.alloc (.cells #[Value.int .i64 x, Value.int .i64 y, Value.int .i64 vx, Value.int .i64 vy, Value.int .i64 an, Value.int .i64 sp, Value.int .i64 de] 26)) u2.heap.size 26 #[Value.int .i64 x, Value.int .i64 y, Value.int .i64 vx, Value.int .i64 vy, Value.int .i64 an, Value.int .i64 sp, Value.int .i64 de]) := has_new _ _ _
    have HCf := hid (wf_c (n := 7) (c := 7) (HV2.out.kept K3.out) (nsL [x, y, vx, vy, an, sp, de] rfl H3.out) (fun _ => offs_of (HV2.out.off (.inr (Nat.le_refl _))) (by omega)) (i64_fL (by intro z hz; simp only [List.mem_cons, List.not_mem_nil, or_false] at hz; rcases hz with rfl | rfl | rfl | rfl | rfl | rfl | rfl; exact HI.out.x; exact HI.out.y; exact HI.out.vx; exact HI.out.vy; exact HI.out.an; exact HI.out.sp; exact HI.out.de) 7) (by have := hl2.out; show List.length (C0 ++ nb 1 1) + 8 * 7 ≤ _; simp only [List.length_append, nb_len]; omega))
    go_wp2_with fail
    refine HCf.out.mono ?_
    rintro e u3 ⟨rfl, v3, hv3, hc3⟩
    have HV3 : Hid (Wv u3 pb v3 (C0 ++ nb 1 1 ++ fB (fL [x, y, vx, vy, an, sp, de]) 7)) := hv3
    have HC3 := hid (((Wc.rfl_ _ _ _).made K3.out).then_ hc3)
    have y12 : u3.cell? ⟨g1, 12, none⟩ = some (.int .i64 k) := HC3.out.but.cell e12 HG2.out
    have y13 : u3.cell? ⟨g1, 13, none⟩ = some (.int .i64 r) := HC3.out.but.cell e13 HG2.out
    have y14 : u3.cell? ⟨g1, 14, none⟩ = some (.slice ao n c) := HC3.out.but.cell e14 HG2.out
    have hks : k = 1 ∨ k = 2 := by rcases HP.out.shape with ⟨h, _⟩ | ⟨h, _⟩; exact .inl h; exact .inr h
    have HSm := hid (Wc.low HV2.out HC3.out)
    have HSu : Hid (Sl u3 ao n f) := HSx.out u3 ((((Made.rfl_ pb wr).then_ (KW.out.low (Nat.le_of_lt HW2.out.here))).then_ (Wc.low HW1.out HC2.out)).then_ HSm.out)
    have HCs := hid (lshape_c (c := c) hks HV3.out HI.out.r HSu.out (fun hn b off s e => HV3.out.off (.inl (HLow.out hn b off s e))) HI.out.f (by have := hl2.out; show List.length (C0 ++ nb 1 1 ++ fB (fL [x, y, vx, vy, an, sp, de]) 7) + 16 * n + 32 ≤ _; simp only [List.length_append, nb_len, fB_len]; omega))
    clear hv3 hc3 e0 e4 e5 e6 e7 e8 e9 e10 e12 e13 e14 hks
    go_wp2_with fail
    refine HCs.out.mono ?_
    rintro e u4 ⟨rfl, v4, hv4, hc4⟩
    have HV4 := hid hv4
    have HC4 := hid hc4
    clear hv4 hc4 y12 y13 y14
    have HW9 : Hid (Wv u4 pb v4 (nb 2 (N : Nat) ++ (L.take (j + 1)).flatMap orB)) := by
     unfold Hid
     have h := HV4.out
     have e1 : L.take (j + 1) = L.take j ++ [(⟨1, id, a, b, x, y, vx, vy, an, sp, de, ln, k, r, ao, n, c, f⟩ : Or)] := by rw [List.take_add_one, HA.out]; rfl
     rw [e1, List.flatMap_append, ← List.append_assoc, EC0.out]
     rw [fL7] at h
     simpa only [List.flatMap_cons, List.flatMap_nil, List.append_nil, orB, if_true, List.append_assoc] using h
    have HM9 : Hid (Wc pb w u4 v v4) := (HM2.out.made KW.out).then_ (HC2.out.then_ (HC3.out.then_ HC4.out))
    go_wp2_with fail
    go_roundg (N - (j + 1))
    case measure => omega
    case rel => exact ⟨j + 1, v4, by omega, by go_num, HW9.out, HM9.out⟩
   ·skip
    have e0 : u2.cell? ⟨g1, 0, none⟩ = some (.int .i64 2) := HC2.out.but.cell (HB.out.at_ 0) HG.out
    have e1 : u2.cell? ⟨g1, 1, none⟩ = some (.int .i64 id) := HC2.out.but.cell (HB.out.at_ 1) HG.out
    have HCi := hid (wnum_c (m := 8) (X := id) HV2.out (by omega) (by have := hl2.out; show List.length (C0 ++ nb 1 2)  ≤ _; simp only [List.length_append, nb_len]; omega) HI.out.id.1 HI.out.id.2)
    go_wp2_with fail
    refine HCi.out.mono ?_
    rintro e u3 ⟨rfl, v3, hv3, hc3⟩
    have HV3 := hid hv3
    have HC3 := hid hc3
    clear hv3 hc3 e0 e1
    have HW9 : Hid (Wv u3 pb v3 (nb 2 (N : Nat) ++ (L.take (j + 1)).flatMap orB)) := by
     unfold Hid
     have h := HV3.out
     have e1 : L.take (j + 1) = L.take j ++ [(⟨2, id, a, b, x, y, vx, vy, an, sp, de, ln, k, r, ao, n, c, f⟩ : Or)] := by rw [List.take_add_one, HA.out]; rfl
     rw [e1, List.flatMap_append, ← List.append_assoc, EC0.out]
     have e2 : orB (⟨2, id, a, b, x, y, vx, vy, an, sp, de, ln, k, r, ao, n, c, f⟩ : Or) = nb 1 2 ++ nb 8 id := rfl
     simpa only [List.flatMap_cons, List.flatMap_nil, List.append_nil, e2, List.append_assoc] using h
    have HM9 : Hid (Wc pb w u3 v v3) := (HM2.out.made KW.out).then_ (HC2.out.then_ HC3.out)
    go_wp2_with fail
    go_roundg (N - (j + 1))
    case measure => omega
    case rel => exact ⟨j + 1, v3, by omega, by go_num, HW9.out, HM9.out⟩
   ·skip
    have e0 : u2.cell? ⟨g1, 0, none⟩ = some (.int .i64 4) := HC2.out.but.cell (HB.out.at_ 0) HG.out
    have e1 : u2.cell? ⟨g1, 1, none⟩ = some (.int .i64 id) := HC2.out.but.cell (HB.out.at_ 1) HG.out
    have HCi := hid (wnum_c (m := 8) (X := id) HV2.out (by omega) (by have := hl2.out; show List.length (C0 ++ nb 1 4)  ≤ _; simp only [List.length_append, nb_len]; omega) HI.out.id.1 HI.out.id.2)
    go_wp2_with fail
    refine HCi.out.mono ?_
    rintro e u3 ⟨rfl, v3, hv3, hc3⟩
    have HV3 := hid hv3
    have HC3 := hid hc3
    clear hv3 hc3 e0 e1
    have HW9 : Hid (Wv u3 pb v3 (nb 2 (N : Nat) ++ (L.take (j + 1)).flatMap orB)) := by
     unfold Hid
     have h := HV3.out
     have e1 : L.take (j + 1) = L.take j ++ [(⟨4, id, a, b, x, y, vx, vy, an, sp, de, ln, k, r, ao, n, c, f⟩ : Or)] := by rw [List.take_add_one, HA.out]; rfl
     rw [e1, List.flatMap_append, ← List.append_assoc, EC0.out]
     have e2 : orB (⟨4, id, a, b, x, y, vx, vy, an, sp, de, ln, k, r, ao, n, c, f⟩ : Or) = nb 1 4 ++ nb 8 id := rfl
     simpa only [List.flatMap_cons, List.flatMap_nil, List.append_nil, e2, List.append_assoc] using h
    have HM9 : Hid (Wc pb w u3 v v3) := (HM2.out.made KW.out).then_ (HC2.out.then_ HC3.out)
    go_wp2_with fail
    go_roundg (N - (j + 1))
    case measure => omega
    case rel => exact ⟨j + 1, v3, by omega, by go_num, HW9.out, HM9.out⟩
   ·skip
    have e0 : u2.cell? ⟨g1, 0, none⟩ = some (.int .i64 3) := HC2.out.but.cell (HB.out.at_ 0) HG.out
    have e2 : u2.cell? ⟨g1, 2, none⟩ = some (.int .i64 a) := HC2.out.but.cell (HB.out.at_ 2) HG.out
    have e3 : u2.cell? ⟨g1, 3, none⟩ = some (.int .i64 b) := HC2.out.but.cell (HB.out.at_ 3) HG.out
    have e4 : u2.cell? ⟨g1, 4, none⟩ = some (.int .i64 x) := HC2.out.but.cell (HB.out.at_ 4) HG.out
    have e5 : u2.cell? ⟨g1, 5, none⟩ = some (.int .i64 y) := HC2.out.but.cell (HB.out.at_ 5) HG.out
    have e6 : u2.cell? ⟨g1, 6, none⟩ = some (.int .i64 vx) := HC2.out.but.cell (HB.out.at_ 6) HG.out
    have e7 : u2.cell? ⟨g1, 7, none⟩ = some (.int .i64 vy) := HC2.out.but.cell (HB.out.at_ 7) HG.out
    have e11 : u2.cell? ⟨g1, 11, none⟩ = some (.int .i64 ln) := HC2.out.but.cell (HB.out.at_ 11) HG.out
    go_upto_region 15 with fail
    refine RF.reg_flow (CW u2 pb v2 [C0 ++ nb 1 3, C0 ++ nb 1 3 ++ nb 8 a, C0 ++ nb 1 3 ++ nb 8 a ++ nb 8 b, C0 ++ nb 1 3 ++ nb 8 a ++ nb 8 b ++ fB (fL [x, y, vx, vy, ln]) 5] [⟨20, 26, 5, #[.int .i64 x, .int .i64 y, .int .i64 vx, .int .i64 vy, .int .i64 ln]⟩]) [[2, 5, 21], [20]] [(20, 73)] [0, 1, 3, 4, 6, 7, 8, 9, 10, 11, 12, 13, 14, 15, 16, 17, 18, 19] [(55, .pointer (some ⟨pb, 0, none⟩)), (58, .pointer (some ⟨pb, 0, none⟩)), (74, .pointer (some ⟨pb, 0, none⟩))] 103 (by kernel_rfl) (CW.start HV2.out) (by kernel_rfl) rfl (by kernel_rfl) (by kernel_rfl) ?_
    apply Exists.intro
    refine ⟨?q1a, ?q1b, ?q1c⟩
    case q1a =>
     intro s G Ty hT f hf
     have z2 := CW.reads hf e2 HG2.out
     have z3 := CW.reads hf e3 HG2.out
     have z4 := CW.reads hf e4 HG2.out
     have z5 := CW.reads hf e5 HG2.out
     have z6 := CW.reads hf e6 HG2.out
     have z7 := CW.reads hf e7 HG2.out
     have z11 := CW.reads hf e11 HG2.out
     clear hf
     simp only [RF.putF, Act.put, List.setIfInBounds_toArray, List.set_cons_succ, List.set_cons_zero]
     change wpQuiet _ _ _ _ [_, _, _, _, _, _, _, _, _, _, _, _, _, _, _, _, _, _] _
     repeat (go_big_quiet_step (fail))
     exact wpQuiet_nil rfl
    case q1b =>
     refine ⟨⟨?_, ?_, ?_, trivial⟩, ⟨?_, trivial⟩, trivial⟩
     ·intro s G u hC hk hw
      rw [show (execOp _ _).run Tryz.prog u = .ok (.enter 19 #[.pointer (some ⟨pb, 0, none⟩), .int .i64 8, .int .i64 a]) u by kernel_rfl]
      refine CW.call hC hk rfl (fun d e => by cases e; rfl) fun v hv hc ha => ?_
      refine (wnum_c (m := 8) hv (by omega) (by have := hl2.out; show List.length (C0 ++ nb 1 3)  ≤ _; simp only [List.length_append, nb_len]; omega) HI.out.a.1 HI.out.a.2).mono ?_
      rintro e u' ⟨rfl, v', h1, h2⟩
      exact ⟨rfl, v', h1, h2⟩
     ·intro s G u hC hk hw
      rw [show (execOp _ _).run Tryz.prog u = .ok (.enter 19 #[.pointer (some ⟨pb, 0, none⟩), .int .i64 8, .int .i64 b]) u by kernel_rfl]
      refine CW.call hC hk rfl (fun d e => by cases e; rfl) fun v hv hc ha => ?_
      refine (wnum_c (m := 8) hv (by omega) (by have := hl2.out; show List.length (C0 ++ nb 1 3 ++ nb 8 a)  ≤ _; simp only [List.length_append, nb_len]; omega) HI.out.b.1 HI.out.b.2).mono ?_
      rintro e u' ⟨rfl, v', h1, h2⟩
      exact ⟨rfl, v', h1, h2⟩
     ·intro s G u hC hk hw
      rw [show (execOp _ _).run Tryz.prog u = .ok (.enter 34 #[.pointer (some ⟨pb, 0, none⟩), G 20]) u by kernel_rfl]
      refine CW.call hC hk rfl (fun d e => by cases e; rfl) fun v hv hc ha => ?_
      obtain ⟨g, eg, hg, og⟩ := ha 0 _ rfl (hw 1 0 20 rfl (by kernel_rfl))
      rw [show G 20 = _ from eg]
      refine (wf_c (n := 5) (c := 5) hv (nsL [x, y, vx, vy, ln] rfl hg) (fun _ => offs_of og (by omega)) (i64_fL (by intro z hz; simp only [List.mem_cons, List.not_mem_nil, or_false] at hz; rcases hz with rfl | rfl | rfl | rfl | rfl; exact HI.out.x; exact HI.out.y; exact HI.out.vx; exact HI.out.vy; exact HI.out.ln) 5) (by have := hl2.out; show List.length (C0 ++ nb 1 3 ++ nb 8 a ++ nb 8 b) + 8 * 5 ≤ _; simp only [List.length_append, nb_len]; omega)).mono ?_
      rintro e u' ⟨rfl, v', h1, h2⟩
      exact ⟨rfl, v', h1, h2⟩
     ·intro s G u hC hk hw
      rw [show (execOp _ _).run Tryz.prog u = .ok (.value (.slice (some ⟨u.heap.size, 0, none⟩) 5 5)) (u.alloc (.cells #[.int .i64 x, .int .i64 y, .int .i64 vx, .int .i64 vy, .int .i64 ln] 26)) by kernel_rfl]
      exact CW.make (i := 0) hC _ rfl rfl (fun i' a' h hne => by
       match i', h with
       | 0, h => exact absurd rfl hne
       | n + 1, h => simp at h)
    case q1c =>
     intro G u3 hu
     obtain ⟨v3, hv3, hc3, _⟩ := hu
     have HV3 : Hid (Wv u3 pb v3 (C0 ++ nb 1 3 ++ nb 8 a ++ nb 8 b ++ fB (fL [x, y, vx, vy, ln]) 5)) := hv3
     have HC3 := hid hc3
     clear hv3 hc3 e0 e2 e3 e4 e5 e6 e7 e11
     simp only [RF.AG, Act.put, List.setIfInBounds_toArray, List.set_cons_succ, List.set_cons_zero]
     have HW9 : Hid (Wv u3 pb v3 (nb 2 (N : Nat) ++ (L.take (j + 1)).flatMap orB)) := by
      unfold Hid
      have h := HV3.out
      have e1 : L.take (j + 1) = L.take j ++ [(⟨3, id, a, b, x, y, vx, vy, an, sp, de, ln, k, r, ao, n, c, f⟩ : Or)] := by rw [List.take_add_one, HA.out]; rfl
      rw [e1, List.flatMap_append, ← List.append_assoc, EC0.out]
      have e2 : orB (⟨3, id, a, b, x, y, vx, vy, an, sp, de, ln, k, r, ao, n, c, f⟩ : Or) = nb 1 3 ++ (nb 8 a ++ nb 8 b ++ (nb 8 x ++ nb 8 y ++ (nb 8 vx ++ nb 8 vy)) ++ nb 8 ln) := rfl
      rw [fL5] at h
      simpa only [List.flatMap_cons, List.flatMap_nil, List.append_nil, e2, List.append_assoc] using h
     have HM9 : Hid (Wc pb w u3 v v3) := (HM2.out.made KW.out).then_ (HC2.out.then_ HC3.out)
     go_wp2_with fail
     go_roundg (N - (j + 1))
     case measure => omega
     case rel => exact ⟨j + 1, v3, by omega, by go_num, HW9.out, HM9.out⟩
   ·skip
    have e0 : u2.cell? ⟨g1, 0, none⟩ = some (.int .i64 5) := HC2.out.but.cell (HB.out.at_ 0) HG.out
    have e1 : u2.cell? ⟨g1, 1, none⟩ = some (.int .i64 id) := HC2.out.but.cell (HB.out.at_ 1) HG.out
    have e6 : u2.cell? ⟨g1, 6, none⟩ = some (.int .i64 vx) := HC2.out.but.cell (HB.out.at_ 6) HG.out
    have e7 : u2.cell? ⟨g1, 7, none⟩ = some (.int .i64 vy) := HC2.out.but.cell (HB.out.at_ 7) HG.out
    have e9 : u2.cell? ⟨g1, 9, none⟩ = some (.int .i64 sp) := HC2.out.but.cell (HB.out.at_ 9) HG.out
    go_upto_region 17 with fail
    refine RF.reg_flow (CW u2 pb v2 [C0 ++ nb 1 5, C0 ++ nb 1 5 ++ nb 8 id, C0 ++ nb 1 5 ++ nb 8 id ++ fB (fL [vx, vy, sp]) 3] [⟨11, 26, 3, #[.int .i64 vx, .int .i64 vy, .int .i64 sp]⟩]) [[2, 12], [11]] [(11, 88)] [0, 1, 3, 4, 5, 6, 7, 8, 9, 10] [(79, .pointer (some ⟨pb, 0, none⟩)), (89, .pointer (some ⟨pb, 0, none⟩))] 103 (by kernel_rfl) (CW.start HV2.out) (by kernel_rfl) rfl (by kernel_rfl) (by kernel_rfl) ?_
    apply Exists.intro
    refine ⟨?q2a, ?q2b, ?q2c⟩
    case q2a =>
     intro s G Ty hT f hf
     have z1 := CW.reads hf e1 HG2.out
     have z6 := CW.reads hf e6 HG2.out
     have z7 := CW.reads hf e7 HG2.out
     have z9 := CW.reads hf e9 HG2.out
     clear hf
     simp only [RF.putF, Act.put, List.setIfInBounds_toArray, List.set_cons_succ, List.set_cons_zero]
     change wpQuiet _ _ _ _ [_, _, _, _, _, _, _, _, _, _] _
     repeat (go_big_quiet_step (fail))
     exact wpQuiet_nil rfl
    case q2b =>
     refine ⟨⟨?_, ?_, trivial⟩, ⟨?_, trivial⟩, trivial⟩
     ·intro s G u hC hk hw
      rw [show (execOp _ _).run Tryz.prog u = .ok (.enter 19 #[.pointer (some ⟨pb, 0, none⟩), .int .i64 8, .int .i64 id]) u by kernel_rfl]
      refine CW.call hC hk rfl (fun d e => by cases e; rfl) fun v hv hc ha => ?_
      refine (wnum_c (m := 8) hv (by omega) (by have := hl2.out; show List.length (C0 ++ nb 1 5)  ≤ _; simp only [List.length_append, nb_len]; omega) HI.out.id.1 HI.out.id.2).mono ?_
      rintro e u' ⟨rfl, v', h1, h2⟩
      exact ⟨rfl, v', h1, h2⟩
     ·intro s G u hC hk hw
      rw [show (execOp _ _).run Tryz.prog u = .ok (.enter 34 #[.pointer (some ⟨pb, 0, none⟩), G 11]) u by kernel_rfl]
      refine CW.call hC hk rfl (fun d e => by cases e; rfl) fun v hv hc ha => ?_
      obtain ⟨g, eg, hg, og⟩ := ha 0 _ rfl (hw 1 0 11 rfl (by kernel_rfl))
      rw [show G 11 = _ from eg]
      refine (wf_c (n := 3) (c := 3) hv (nsL [vx, vy, sp] rfl hg) (fun _ => offs_of og (by omega)) (i64_fL (by intro z hz; simp only [List.mem_cons, List.not_mem_nil, or_false] at hz; rcases hz with rfl | rfl | rfl; exact HI.out.vx; exact HI.out.vy; exact HI.out.sp) 3) (by have := hl2.out; show List.length (C0 ++ nb 1 5 ++ nb 8 id) + 8 * 3 ≤ _; simp only [List.length_append, nb_len]; omega)).mono ?_
      rintro e u' ⟨rfl, v', h1, h2⟩
      exact ⟨rfl, v', h1, h2⟩
     ·intro s G u hC hk hw
      rw [show (execOp _ _).run Tryz.prog u = .ok (.value (.slice (some ⟨u.heap.size, 0, none⟩) 3 3)) (u.alloc (.cells #[.int .i64 vx, .int .i64 vy, .int .i64 sp] 26)) by kernel_rfl]
      exact CW.make (i := 0) hC _ rfl rfl (fun i' a' h hne => by
       match i', h with
       | 0, h => exact absurd rfl hne
       | n + 1, h => simp at h)
    case q2c =>
     intro G u3 hu
     obtain ⟨v3, hv3, hc3, _⟩ := hu
     have HV3 : Hid (Wv u3 pb v3 (C0 ++ nb 1 5 ++ nb 8 id ++ fB (fL [vx, vy, sp]) 3)) := hv3
     have HC3 := hid hc3
     clear hv3 hc3 e0 e1 e6 e7 e9
     simp only [RF.AG, Act.put, List.setIfInBounds_toArray, List.set_cons_succ, List.set_cons_zero]
     have HW9 : Hid (Wv u3 pb v3 (nb 2 (N : Nat) ++ (L.take (j + 1)).flatMap orB)) := by
      unfold Hid
      have h := HV3.out
      have e1 : L.take (j + 1) = L.take j ++ [(⟨5, id, a, b, x, y, vx, vy, an, sp, de, ln, k, r, ao, n, c, f⟩ : Or)] := by rw [List.take_add_one, HA.out]; rfl
      rw [e1, List.flatMap_append, ← List.append_assoc, EC0.out]
      have e2 : orB (⟨5, id, a, b, x, y, vx, vy, an, sp, de, ln, k, r, ao, n, c, f⟩ : Or) = nb 1 5 ++ (nb 8 id ++ (nb 8 vx ++ nb 8 vy) ++ nb 8 sp) := rfl
      rw [fL3] at h
      simpa only [List.flatMap_cons, List.flatMap_nil, List.append_nil, e2, List.append_assoc] using h
     have HM9 : Hid (Wc pb w u3 v v3) := (HM2.out.made KW.out).then_ (HC2.out.then_ HC3.out)
     go_wp2_with fail
     go_roundg (N - (j + 1))
     case measure => omega
     case rel => exact ⟨j + 1, v3, by omega, by go_num, HW9.out, HM9.out⟩
   ·skip
    have e0 : u2.cell? ⟨g1, 0, none⟩ = some (.int .i64 6) := HC2.out.but.cell (HB.out.at_ 0) HG.out
    have e6 : u2.cell? ⟨g1, 6, none⟩ = some (.int .i64 vx) := HC2.out.but.cell (HB.out.at_ 6) HG.out
    have e7 : u2.cell? ⟨g1, 7, none⟩ = some (.int .i64 vy) := HC2.out.but.cell (HB.out.at_ 7) HG.out
    have K3 : Hid (Made u2.heap.size u2 (u2.alloc (.cells #[Value.int .i64 vx, Value.int .i64 vy] 26))) := (Made.rfl_ _ _).cells (Nat.le_refl _) _ _
    have H3 : Hid (Has (u2.alloc (.cells #[Value.int .i64 vx, Value.int .i64 vy] 26)) u2.heap.size 26 #[Value.int .i64 vx, Value.int .i64 vy]) := has_new _ _ _
    have HCf := hid (wf_c (n := 2) (c := 2) (HV2.out.kept K3.out) (nsL [vx, vy] rfl H3.out) (fun _ => offs_of (HV2.out.off (.inr (Nat.le_refl _))) (by omega)) (i64_fL (by intro z hz; simp only [List.mem_cons, List.not_mem_nil, or_false] at hz; rcases hz with rfl | rfl; exact HI.out.vx; exact HI.out.vy) 2) (by have := hl2.out; show List.length (C0 ++ nb 1 6) + 8 * 2 ≤ _; simp only [List.length_append, nb_len]; omega))
    go_wp2_with fail
    refine HCf.out.mono ?_
    rintro e u3 ⟨rfl, v3, hv3, hc3⟩
    have HV3 : Hid (Wv u3 pb v3 (C0 ++ nb 1 6 ++ fB (fL [vx, vy]) 2)) := hv3
    have HC3 := hid (((Wc.rfl_ _ _ _).made K3.out).then_ hc3)
    clear hv3 hc3 e0 e6 e7
    have HW9 : Hid (Wv u3 pb v3 (nb 2 (N : Nat) ++ (L.take (j + 1)).flatMap orB)) := by
     unfold Hid
     have h := HV3.out
     have e1 : L.take (j + 1) = L.take j ++ [(⟨6, id, a, b, x, y, vx, vy, an, sp, de, ln, k, r, ao, n, c, f⟩ : Or)] := by rw [List.take_add_one, HA.out]; rfl
     rw [e1, List.flatMap_append, ← List.append_assoc, EC0.out]
     have e2 : orB (⟨6, id, a, b, x, y, vx, vy, an, sp, de, ln, k, r, ao, n, c, f⟩ : Or) = nb 1 6 ++ (nb 8 vx ++ nb 8 vy) := rfl
     rw [fL2] at h
     simpa only [List.flatMap_cons, List.flatMap_nil, List.append_nil, e2, List.append_assoc] using h
    have HM9 : Hid (Wc pb w u3 v v3) := (HM2.out.made KW.out).then_ (HC2.out.then_ HC3.out)
    go_wp2_with fail
    go_roundg (N - (j + 1))
    case measure => omega
    case rel => exact ⟨j + 1, v3, by omega, by go_num, HW9.out, HM9.out⟩
  ·have e : j = N := by omega
   have HV9 : Hid (Wv wr pb v2' (batB L)) := by
    unfold Hid batB
    have h := HW2.out
    rw [List.take_of_length_le (by rw [HN.out]; omega)] at h
    rw [HN.out]
    exact h
   have hlB : (batB L).length ≤ 300000 := by
    unfold batB
    rw [List.length_append, nb_len]
    have h := bat_len L H5.out
    rw [HN.out] at h
    omega
   have HBy := hid (wbytes_c HV9.out (by omega))
   have HM9 : Hid (Made w0.heap.size w0 wr) := K0.out.then_ ((Wc.low HW0.out HM2.out).low (Nat.le_of_eq HPB.out))
   obtain ⟨XS, eXS⟩ : ∃ X, strB (gl (batB L)) (batB L).length = X := ⟨_, rfl⟩
   have EXS := hid eXS
   obtain ⟨nB, enB⟩ : ∃ n, (batB L).length = n := ⟨_, rfl⟩
   rw [enB] at HBy EXS
   have ENB := hid enB
   clear eXS enB
   go_wp2_with fail
   refine HBy.out.mono ?_
   rintro e w6 ⟨ao, c, rfl, hc, hO, hM⟩
   have hq := conv_by (c := c) hO.by_
   rw [EXS.out] at hq
   have HM10 := hid (HM9.out.then_ (hM.low HM9.out.1.size))
   clear hO hM hc
   go_wp2_with fail
   go_ret
   exact ⟨by rw [ENB.out, EXS.out]; rfl, HM10.out⟩
end Go.Proofs.YtgdcphmmehedoaaGreat.Fx
/- The anchor of layer 10: one Pull on a new world. -/
namespace Go.Proofs.YtgdcphmmehedoaaGreat.Fx
open Go.ChangeShapes Go.WideShapes Go.ChangeAt Go.RowKit
set_option linter.unusedVariables false
def pullO : Or := ⟨6, 0, 0, 0, 0, 0, 0, (-4294967296), 0, 0, 0, 0, 0, 0, none, 0, 0, fun _ => (0, 0)⟩
end Go.Proofs.YtgdcphmmehedoaaGreat.Fx
/- The statements' Order of a deed. -/
namespace Go.Proofs.YtgdcphmmehedoaaGreat.Fx
open Go.ChangeShapes Go.WideShapes Go.ChangeAt Go.RowKit
set_option linter.unusedVariables false
def alD (Q : Option Addr → Nat → Prop) (B : Nat) (bv : Option Addr → Nat → Value) (n : Nat) (f : Cs) (i : Nat) (v : World) (g : Nat) (e : MI.Ex) : Prop :=
 (i = 1 → ∃ ao c, e.v = bv ao c ∧ Sl v ao n f ∧ Q ao c ∧ (0 < n → ∀ b off s, ao = some ⟨b, off, s⟩ → b < B ∨ (g ≤ b ∧ b < e.hi))) ∧ (i = 4 → Has v g 35 #[.int .i64 0, .int .i64 0, .int .i64 0, .int .i64 0, .int .i64 0, .int .i64 0, .int .i64 0, .int .i64 0, .int .i64 0, .int .i64 0, .slice none 0 0] ∧ e.hi = g + 1) ∧ (i = 5 → Has v g 102 #[.int .i64 0, .int .i64 0, .int .i64 0, .int .i64 0, .int .i64 0, .int .i64 0, .int .i64 0, .int .i64 0] ∧ e.hi = g + 1)
theorem alD_lasts (Q : Option Addr → Nat → Prop) (B : Nat) (bv : Option Addr → Nat → Value) (n : Nat) (f : Cs) : MI.Lasts (alD Q B bv n f) := fun i u v g e h hh kk =>
 ⟨fun hi => by obtain ⟨ao, c, h1, h2, h3⟩ := h.1 hi; exact ⟨ao, c, h1, fun hn => (by obtain ⟨b, off, e', hp⟩ := h2 hn; exact ⟨b, off, e', hp.kept kk⟩), h3⟩,
  fun hi => by obtain ⟨h1, h2⟩ := h.2.1 hi; exact ⟨h1.stays kk h1.here, h2⟩,
  fun hi => by obtain ⟨h1, h2⟩ := h.2.2 hi; exact ⟨h1.stays kk h1.here, h2⟩⟩
theorem wpQuiet_load {P : Program} {ops : Array Oper} {C : World → Prop} {Q : Act → Prop} {a : Act} {o : Oper} {rest : List Oper} (hgd : o.guard = none) (ty : TypeId) (x : Operand) (ho : o.op = .load ty x) (g : Nat) (hx : a.eval x = .pointer (some ⟨g, 0, none⟩)) (ar : Array Value) (t : TypeId) (d : TypeDesc)
  (hc : ∀ u, C u → Has u g t ar) (hu : P.underlying ty = some d) (hd : (match d with | .struct _ | .array _ _ => true | _ => false) = true) (hi : (P.info? ty).map (·.size) = some ar.size) (h : wpQuiet P ops C Q rest (a.put o.dst (.agg ar))) : wpQuiet P ops C Q (o :: rest) a := by
 unfold wpQuiet
 rw [if_pos (RS.wanted_free a hgd)]
 refine ⟨.agg ar, fun u hcu => ?_, h⟩
 have hl := run_loadVar_at (P := P) u ⟨g, 0, none⟩ ty ar.toList d (fun j v hj => by rw [Addr.add_lit, Nat.zero_add, (hc u hcu).at_]; simpa using hj) hu hd (by simpa using hi)
 unfold Oper.quietAt Oper.quietUpon execOp
 simp only [ho, hx, Instr.loadAt, Instr.sureAddr, Sem.run_bind, Sem.run_pure, Result.andThen_ok, hl, Array.toArray_toList]
 first | trivial | exact ⟨rfl, rfl⟩ | exact ⟨trivial, trivial⟩
theorem Class.has {w : World} {T : Type} {f : T → World} (hf : Class w f) {g : Nat} {t : TypeId} {cs : Array Value} (h : Has w g t cs) : ∀ u, (∃ x, u = f x) → Has u g t cs := fun u ⟨x, e⟩ => by
 subst e
 exact h.stays (hf.1 x) h.here
def valD (i g : Nat) (e : MI.Ex) : Value := if i < 4 then e.v else .pointer (some ⟨g, 0, none⟩)
theorem dbodyM_c (d : De) (hi : DeI d) : ∃ bd, BdI bd ∧ (bd.n ≤ 8 ∨ bd.n = d.rn) ∧ ∀ w, Sl w d.rao d.rn d.rf → Calls Tryz.prog 48 #[deV d] w fun e v => ∃ ao c, e = .returned (bodyV bd.id bd.x bd.y bd.vx bd.vy bd.an bd.sp bd.de bd.k bd.r (.slice ao bd.n c)) ∧ Sl v ao bd.n bd.f ∧ ((ao = none ∧ bd.n = 0 ∧ c = 0) ∨ ∃ a, ao = some a) ∧ Made w.heap.size w v ∧ ((ao = d.rao ∧ bd.n = d.rn) ∨ ∀ b off s, ao = some ⟨b, off, s⟩ → w.heap.size ≤ b) := by
 by_cases hk : d.kd % 16 = 15
 ·refine ⟨d.raw, hi.raw, .inr rfl, fun w hs => ?_⟩
  refine (dbody_raw d.kd d.pk d.pn d.ps d.pt d.px d.py d.pa d.vx d.vy d.sp d.de d.a d.b d.ax d.ay d.tx d.ty d.ln d.rid d.rx d.ry d.rvx d.rvy d.ran d.rsp d.rde d.rk d.rr d.rao d.rn d.rc w hk).mono ?_
  rintro e v ⟨rfl, k⟩
  exact ⟨d.rao, d.rc, rfl, fun hn => by obtain ⟨b, off, e, hp⟩ := hs hn; exact ⟨b, off, e, hp.kept k⟩, hi.rok, k, .inl ⟨rfl, rfl⟩⟩
 ·obtain ⟨X, Y, A, k, r, n, f, hrp, hc, ir, ik, bX, bY, bA, hpl⟩ := place_w d.pk d.pn d.ps d.pt d.px d.py d.pa hi.px hi.py
  unfold Inn at bX bY
  have i0 : I64 0 := by unfold I64; omega
  have iM : I64 85899345920 := by unfold I64; omega
  have iN : I64 (-85899345920) := by unfold I64; omega
  by_cases hd : d.de % 4 = 0
  ·refine ⟨⟨0, X, Y, 0, 0, A, 0, 0, k, r, none, n, 0, f⟩, ⟨i0, by show I64 X; unfold I64; omega, by show I64 Y; unfold I64; omega, i0, i0, by show I64 A; unfold I64; omega, i0, i0, ik, ir, hc⟩, .inl (right_n hrp), fun w hs => ?_⟩
   exact (dbody_still d.kd d.pk d.pn d.ps d.pt d.px d.py d.pa d.vx d.vy d.sp d.de d.a d.b d.ax d.ay d.tx d.ty d.ln d.rid d.rx d.ry d.rvx d.rvy d.ran d.rsp d.rde d.rk d.rr d.rao d.rn d.rc w hk hd X Y A k r n f hpl).mono fun _ _ ⟨a, c, h1, h2, h3, h4, h5⟩ => ⟨a, c, h1, h2, h3, h4, .inr h5⟩
  ·refine ⟨⟨0, X, Y, bringF d.vx (negF 85899345920) 85899345920, bringF d.vy (negF 85899345920) 85899345920, A, bringF d.sp (-85899345920) 85899345920, 1 + d.de % 34359738368, k, r, none, n, 0, f⟩,
    ⟨i0, by show I64 X; unfold I64; omega, by show I64 Y; unfold I64; omega, bring_I hi.vx (by exact iN) iM, bring_I hi.vy (by exact iN) iM, by show I64 A; unfold I64; omega, bring_I hi.sp iN iM, by show I64 (1 + d.de % 34359738368); unfold I64; omega, ik, ir, hc⟩, .inl (right_n hrp), fun w hs => ?_⟩
   exact (dbody_full d.kd d.pk d.pn d.ps d.pt d.px d.py d.pa d.vx d.vy d.sp d.de d.a d.b d.ax d.ay d.tx d.ty d.ln d.rid d.rx d.ry d.rvx d.rvy d.ran d.rsp d.rde d.rk d.rr d.rao d.rn d.rc w hk hd X Y A k r _ _ _ _ n f hi.vx hi.vy hi.sp rfl rfl rfl rfl hpl).mono fun _ _ ⟨a, c, h1, h2, h3, h4, h5⟩ => ⟨a, c, h1, h2, h3, h4, .inr h5⟩
def ordOf (K aq VX VY SP PX PY : Int) (j : Jt) (b : Bd) : Or :=
 if K = 2 then ⟨5, aq, 0, 0, 0, 0, VX, VY, 0, SP, 0, 0, 0, 0, none, 0, 0, fun _ => (0, 0)⟩
 else if K = 3 then ⟨4, aq, 0, 0, 0, 0, 0, 0, 0, 0, 0, 0, 0, 0, none, 0, 0, fun _ => (0, 0)⟩
 else if K = 4 ∨ K = 5 then ⟨3, 0, j.a, j.b, j.ax, j.ay, j.tx, j.ty, 0, 0, 0, j.ln, 0, 0, none, 0, 0, fun _ => (0, 0)⟩
 else if K = 6 then ⟨2, aq, 0, 0, 0, 0, 0, 0, 0, 0, 0, 0, 0, 0, none, 0, 0, fun _ => (0, 0)⟩
 else if K = 7 then ⟨6, 0, 0, 0, 0, 0, PX, PY, 0, 0, 0, 0, 0, 0, none, 0, 0, fun _ => (0, 0)⟩
 else ⟨1, 0, 0, 0, b.x, b.y, b.vx, b.vy, b.an, b.sp, b.de, 0, b.k, b.r, b.ao, b.n, b.c, b.f⟩
theorem ordOf_1 {K aq VX VY SP PX PY : Int} {j : Jt} {b : Bd} (h : (¬ K = 2 ∧ ¬ K = 3 ∧ ¬ (K = 4 ∨ K = 5)) ∧ ¬ K = 6 ∧ ¬ K = 7) : ordOf K aq VX VY SP PX PY j b = ⟨1, 0, 0, 0, b.x, b.y, b.vx, b.vy, b.an, b.sp, b.de, 0, b.k, b.r, b.ao, b.n, b.c, b.f⟩ := by
 unfold ordOf
 rw [if_neg h.1.1, if_neg h.1.2.1, if_neg h.1.2.2, if_neg h.2.1, if_neg h.2.2]
def Ans1 (Q : Option Addr → Nat → Prop) (w : World) (K aq VX VY SP PX PY : Int) (j : Jt) (b : Bd) (e : Ending) (v : World) : Prop :=
 ∃ ao c, e = .returned (orV (ordOf K aq VX VY SP PX PY j { b with ao := ao, c := c })) ∧ Sl v (ordOf K aq VX VY SP PX PY j { b with ao := ao, c := c }).ao (ordOf K aq VX VY SP PX PY j { b with ao := ao, c := c }).n (ordOf K aq VX VY SP PX PY j { b with ao := ao, c := c }).f ∧ Q ao c ∧ Made w.heap.size w v
end Go.Proofs.YtgdcphmmehedoaaGreat.Fx