/- CoE -/
import Derived.Test.YtgdcphmmehedoaaGreatCc7
import Derived.Test.YtgdcphmmehedoaaGreatCc20
set_option maxRecDepth 100000
set_option maxHeartbeats 64000000
/- Package codec: an order is written. -/
namespace Go.Proofs.YtgdcphmmehedoaaGreat.Fx
open Go.ChangeShapes Go.WideShapes Go.ChangeAt Go.RowKit
set_option linter.unusedVariables false
def orB (o : Or) : List Nat := nb 1 o.kd ++ (if o.kd = 1 then nb 8 o.x ++ nb 8 o.y ++ (nb 8 o.vx ++ nb 8 o.vy) ++ (nb 8 o.an ++ nb 8 o.sp ++ nb 8 o.de) ++ shB o.k o.r o.n o.f
 else if o.kd = 2 ∨ o.kd = 4 then nb 8 o.id
 else if o.kd = 3 then nb 8 o.a ++ nb 8 o.b ++ (nb 8 o.x ++ nb 8 o.y ++ (nb 8 o.vx ++ nb 8 o.vy)) ++ nb 8 o.ln
 else if o.kd = 5 then nb 8 o.id ++ (nb 8 o.vx ++ nb 8 o.vy) ++ nb 8 o.sp
 else if o.kd = 6 then nb 8 o.vx ++ nb 8 o.vy else [])
theorem worder2_c {pb n c : Nat} {v : Value} {l : List Nat} {id a b x y vx vy an sp de ln k r : Int} {ao : Option Addr} {f : Cs} {w : World} (hW : Wv w pb v l) (hI : OrI (⟨2, id, a, b, x, y, vx, vy, an, sp, de, ln, k, r, ao, n, c, f⟩ : Or)) (hs : Sl w ao n f) (hX : 0 < n → Offs (OwnW pb v) ao) (hn : l.length + 16 * n + 200 ≤ 549755813888) :
  Calls Tryz.prog 26 #[.pointer (some ⟨pb, 0, none⟩), .agg #[.int .i64 2, .int .i64 id, .int .i64 a, .int .i64 b, .int .i64 x, .int .i64 y, .int .i64 vx, .int .i64 vy, .int .i64 an, .int .i64 sp, .int .i64 de, .int .i64 ln, .int .i64 k, .int .i64 r, .slice ao n c]] w fun e w' => e = .returned (.tuple #[]) ∧ ∃ v', Wv w' pb v' (l ++ orB (⟨2, id, a, b, x, y, vx, vy, an, sp, de, ln, k, r, ao, n, c, f⟩ : Or)) ∧ Wc pb w w' v v' := by
 have HW := hid hW
 have HS := hid hs
 have HX := hid hX
 have HI := hid hI
 have hk1 : -9223372036854775808 ≤ 2 := by omega
 have hk2 : 2 ≤ 9223372036854775807 := by omega
 obtain ⟨W, eW⟩ : ∃ W, W = w.alloc (.cells #[.int .i64 2, .int .i64 id, .int .i64 a, .int .i64 b, .int .i64 x, .int .i64 y, .int .i64 vx, .int .i64 vy, .int .i64 an, .int .i64 sp, .int .i64 de, .int .i64 ln, .int .i64 k, .int .i64 r, .slice ao n c] 49) := ⟨_, rfl⟩
 have KW : Hid (Made w.heap.size w W) := by unfold Hid; rw [eW]; exact (Made.rfl_ _ _).cells (Nat.le_refl _) _ _
 obtain ⟨g1, eg1⟩ : ∃ g, w.heap.size = g := ⟨_, rfl⟩
 have HB : Hid (Has W g1 49 #[.int .i64 2, .int .i64 id, .int .i64 a, .int .i64 b, .int .i64 x, .int .i64 y, .int .i64 vx, .int .i64 vy, .int .i64 an, .int .i64 sp, .int .i64 de, .int .i64 ln, .int .i64 k, .int .i64 r, .slice ao n c]) := by unfold Hid; rw [eW, ← eg1]; exact has_new _ _ _
 have HG : Hid (¬ OwnW pb v g1) := HW.out.off (.inr (Nat.le_of_eq eg1))
 have HW1 := hid (HW.out.kept KW.out)
 have d0 : W.cell? ⟨g1, 0, none⟩ = some (.int .i64 2) := HB.out.at_ 0
 clear hW hs hX hI
 go_enter Tryz.func26, Tryz.ntmps26
 go_upto_region 1 with fail
 rw [← eW]
 clear eW
 try rw [eg1]
 clear eg1
 refine RF.reg_flow (CW W pb v [l, l ++ nb 1 2] []) [[5]] [] [0, 1, 2, 3, 4] [(9, .pointer (some ⟨pb, 0, none⟩))] 90 (by kernel_rfl) (CW.start HW1.out) (by kernel_rfl) rfl (by kernel_rfl) (by kernel_rfl) ?_
 apply Exists.intro
 refine ⟨?q1a, ?q1b, ?q1c⟩
 case q1a =>
  intro s G Ty hT f hf
  have z0 := CW.reads hf d0 HG.out
  clear hf
  simp only [RF.putF, Act.put, List.setIfInBounds_toArray, List.set_cons_succ, List.set_cons_zero]
  change wpQuiet _ _ _ _ [_, _, _, _, _] _
  repeat (go_big_quiet_step (fail))
  exact wpQuiet_nil rfl
 case q1b =>
  refine ⟨⟨?_, trivial⟩, trivial⟩
  ·intro s G u hC hk hw
   rw [show (execOp _ _).run Tryz.prog u = .ok (.enter 19 #[.pointer (some ⟨pb, 0, none⟩), .int .i64 1, .int .i64 2]) u by kernel_rfl]
   refine CW.call hC hk rfl (fun d e => by cases e; rfl) fun v hv hc ha => ?_
   refine (wnum_c (m := 1) hv (by omega) (by show List.length (l)  ≤ _; omega) (by omega) (by omega)).mono ?_
   rintro e u' ⟨rfl, v', h1, h2⟩
   exact ⟨rfl, v', h1, h2⟩
 case q1c =>
  intro G u hu
  obtain ⟨v1, hv1, hc1, _⟩ := hu
  have HV1 : Hid (Wv u pb v1 (l ++ nb 1 2)) := hv1
  have HC1 := hid hc1
  have e0 := hc1.but.cell d0 HG.out
  have e1 : u.cell? ⟨g1, 1, none⟩ = some (.int .i64 id) := hc1.but.cell (HB.out.at_ 1) HG.out
  have HG2 := hid (hc1.offs HB.out.here HG.out)
  have HS2 : Hid (Sl u ao n f) := (Sl.kept HS.out KW.out : Sl W ao n f) |> fun h hn => by
   obtain ⟨b, off, e, hp⟩ := h hn
   exact ⟨b, off, e, hp.but HC1.out.but (HX.out hn b off none e)⟩
  have HX2 : Hid (0 < n → Offs (OwnW pb v1) ao) := fun hn b off s e => by
   obtain ⟨b', off', e', hp⟩ := (Sl.kept HS.out KW.out : Sl W ao n f) hn
   rw [e] at e'; cases e'
   exact HC1.out.offs (World.block_lt_of_cell? _ _ (hp 0 hn).1) (HX.out hn b off none e)
  clear hv1 hc1 d0
  simp only [RF.AG]
  go_upto_region 8 with fail
  refine RF.reg_flow (CW u pb v1 [l ++ nb 1 2, l ++ nb 1 2 ++ nb 8 id] []) [[5]] [] [0, 1, 2, 3, 4] [(43, .pointer (some ⟨pb, 0, none⟩))] 90 (by kernel_rfl) (CW.start HV1.out) (by kernel_rfl) rfl (by kernel_rfl) (by kernel_rfl) ?_
  apply Exists.intro
  refine ⟨?q2a, ?q2b, ?q2c⟩
  case q2a =>
   intro s G Ty hT f hf
   have z1 := CW.reads hf e1 HG2.out
   clear hf
   simp only [RF.putF, Act.put, List.setIfInBounds_toArray, List.set_cons_succ, List.set_cons_zero]
   change wpQuiet _ _ _ _ [_, _, _, _, _] _
   repeat (go_big_quiet_step (fail))
   exact wpQuiet_nil rfl
  case q2b =>
   refine ⟨⟨?_, trivial⟩, trivial⟩
   ·intro s G u hC hk hw
    rw [show (execOp _ _).run Tryz.prog u = .ok (.enter 19 #[.pointer (some ⟨pb, 0, none⟩), .int .i64 8, .int .i64 id]) u by kernel_rfl]
    refine CW.call hC hk rfl (fun d e => by cases e; rfl) fun v hv hc ha => ?_
    refine (wnum_c (m := 8) hv (by omega) (by show List.length (l ++ nb 1 2)  ≤ _; simp only [List.length_append, nb_len]; omega) (HI.out.id.1) (HI.out.id.2)).mono ?_
    rintro e u' ⟨rfl, v', h1, h2⟩
    exact ⟨rfl, v', h1, h2⟩
  case q2c =>
   intro G u2 hu
   obtain ⟨v2, hv2, hc2, _⟩ := hu
   have HV2 : Hid (Wv u2 pb v2 (l ++ nb 1 2 ++ nb 8 id)) := hv2
   have HC2 := hid hc2
   clear hv2 hc2 e0 e1
   simp only [RF.AG]
   go_wp2_with fail
   refine cvoid_end rfl rfl ⟨rfl, v2, ?_, ((Wc.rfl_ _ _ _).made KW.out).then_ (HC1.out.then_ HC2.out)⟩
   have h := HV2.out
   have e : orB (⟨2, id, a, b, x, y, vx, vy, an, sp, de, ln, k, r, ao, n, c, f⟩ : Or) = nb 1 2 ++ nb 8 id := rfl
   rw [e]
   skip
   simpa only [List.append_assoc] using h
theorem worder4_c {pb n c : Nat} {v : Value} {l : List Nat} {id a b x y vx vy an sp de ln k r : Int} {ao : Option Addr} {f : Cs} {w : World} (hW : Wv w pb v l) (hI : OrI (⟨4, id, a, b, x, y, vx, vy, an, sp, de, ln, k, r, ao, n, c, f⟩ : Or)) (hs : Sl w ao n f) (hX : 0 < n → Offs (OwnW pb v) ao) (hn : l.length + 16 * n + 200 ≤ 549755813888) :
  Calls Tryz.prog 26 #[.pointer (some ⟨pb, 0, none⟩), .agg #[.int .i64 4, .int .i64 id, .int .i64 a, .int .i64 b, .int .i64 x, .int .i64 y, .int .i64 vx, .int .i64 vy, .int .i64 an, .int .i64 sp, .int .i64 de, .int .i64 ln, .int .i64 k, .int .i64 r, .slice ao n c]] w fun e w' => e = .returned (.tuple #[]) ∧ ∃ v', Wv w' pb v' (l ++ orB (⟨4, id, a, b, x, y, vx, vy, an, sp, de, ln, k, r, ao, n, c, f⟩ : Or)) ∧ Wc pb w w' v v' := by
 have HW := hid hW
 have HS := hid hs
 have HX := hid hX
 have HI := hid hI
 have hk1 : -9223372036854775808 ≤ 4 := by omega
 have hk2 : 4 ≤ 9223372036854775807 := by omega
 obtain ⟨W, eW⟩ : ∃ W, W = w.alloc (.cells #[.int .i64 4, .int .i64 id, .int .i64 a, .int .i64 b, .int .i64 x, .int .i64 y, .int .i64 vx, .int .i64 vy, .int .i64 an, .int .i64 sp, .int .i64 de, .int .i64 ln, .int .i64 k, .int .i64 r, .slice ao n c] 49) := ⟨_, rfl⟩
 have KW : Hid (Made w.heap.size w W) := by unfold Hid; rw [eW]; exact (Made.rfl_ _ _).cells (Nat.le_refl _) _ _
 obtain ⟨g1, eg1⟩ : ∃ g, w.heap.size = g := ⟨_, rfl⟩
 have HB : Hid (Has W g1 49 #[.int .i64 4, .int .i64 id, .int .i64 a, .int .i64 b, .int .i64 x, .int .i64 y, .int .i64 vx, .int .i64 vy, .int .i64 an, .int .i64 sp, .int .i64 de, .int .i64 ln, .int .i64 k, .int .i64 r, .slice ao n c]) := by unfold Hid; rw [eW, ← eg1]; exact has_new _ _ _
 have HG : Hid (¬ OwnW pb v g1) := HW.out.off (.inr (Nat.le_of_eq eg1))
 have HW1 := hid (HW.out.kept KW.out)
 have d0 : W.cell? ⟨g1, 0, none⟩ = some (.int .i64 4) := HB.out.at_ 0
 clear hW hs hX hI
 go_enter Tryz.func26, Tryz.ntmps26
 go_upto_region 1 with fail
 rw [← eW]
 clear eW
 try rw [eg1]
 clear eg1
 refine RF.reg_flow (CW W pb v [l, l ++ nb 1 4] []) [[5]] [] [0, 1, 2, 3, 4] [(9, .pointer (some ⟨pb, 0, none⟩))] 90 (by kernel_rfl) (CW.start HW1.out) (by kernel_rfl) rfl (by kernel_rfl) (by kernel_rfl) ?_
 apply Exists.intro
 refine ⟨?q3a, ?q3b, ?q3c⟩
 case q3a =>
  intro s G Ty hT f hf
  have z0 := CW.reads hf d0 HG.out
  clear hf
  simp only [RF.putF, Act.put, List.setIfInBounds_toArray, List.set_cons_succ, List.set_cons_zero]
  change wpQuiet _ _ _ _ [_, _, _, _, _] _
  repeat (go_big_quiet_step (fail))
  exact wpQuiet_nil rfl
 case q3b =>
  refine ⟨⟨?_, trivial⟩, trivial⟩
  ·intro s G u hC hk hw
   rw [show (execOp _ _).run Tryz.prog u = .ok (.enter 19 #[.pointer (some ⟨pb, 0, none⟩), .int .i64 1, .int .i64 4]) u by kernel_rfl]
   refine CW.call hC hk rfl (fun d e => by cases e; rfl) fun v hv hc ha => ?_
   refine (wnum_c (m := 1) hv (by omega) (by show List.length (l)  ≤ _; omega) (by omega) (by omega)).mono ?_
   rintro e u' ⟨rfl, v', h1, h2⟩
   exact ⟨rfl, v', h1, h2⟩
 case q3c =>
  intro G u hu
  obtain ⟨v1, hv1, hc1, _⟩ := hu
  have HV1 : Hid (Wv u pb v1 (l ++ nb 1 4)) := hv1
  have HC1 := hid hc1
  have e0 := hc1.but.cell d0 HG.out
  have e1 : u.cell? ⟨g1, 1, none⟩ = some (.int .i64 id) := hc1.but.cell (HB.out.at_ 1) HG.out
  have HG2 := hid (hc1.offs HB.out.here HG.out)
  have HS2 : Hid (Sl u ao n f) := (Sl.kept HS.out KW.out : Sl W ao n f) |> fun h hn => by
   obtain ⟨b, off, e, hp⟩ := h hn
   exact ⟨b, off, e, hp.but HC1.out.but (HX.out hn b off none e)⟩
  have HX2 : Hid (0 < n → Offs (OwnW pb v1) ao) := fun hn b off s e => by
   obtain ⟨b', off', e', hp⟩ := (Sl.kept HS.out KW.out : Sl W ao n f) hn
   rw [e] at e'; cases e'
   exact HC1.out.offs (World.block_lt_of_cell? _ _ (hp 0 hn).1) (HX.out hn b off none e)
  clear hv1 hc1 d0
  simp only [RF.AG]
  go_upto_region 8 with fail
  refine RF.reg_flow (CW u pb v1 [l ++ nb 1 4, l ++ nb 1 4 ++ nb 8 id] []) [[5]] [] [0, 1, 2, 3, 4] [(43, .pointer (some ⟨pb, 0, none⟩))] 90 (by kernel_rfl) (CW.start HV1.out) (by kernel_rfl) rfl (by kernel_rfl) (by kernel_rfl) ?_
  apply Exists.intro
  refine ⟨?q4a, ?q4b, ?q4c⟩
  case q4a =>
   intro s G Ty hT f hf
   have z1 := CW.reads hf e1 HG2.out
   clear hf
   simp only [RF.putF, Act.put, List.setIfInBounds_toArray, List.set_cons_succ, List.set_cons_zero]
   change wpQuiet _ _ _ _ [_, _, _, _, _] _
   repeat (go_big_quiet_step (fail))
   exact wpQuiet_nil rfl
  case q4b =>
   refine ⟨⟨?_, trivial⟩, trivial⟩
   ·intro s G u hC hk hw
    rw [show (execOp _ _).run Tryz.prog u = .ok (.enter 19 #[.pointer (some ⟨pb, 0, none⟩), .int .i64 8, .int .i64 id]) u by kernel_rfl]
    refine CW.call hC hk rfl (fun d e => by cases e; rfl) fun v hv hc ha => ?_
    refine (wnum_c (m := 8) hv (by omega) (by show List.length (l ++ nb 1 4)  ≤ _; simp only [List.length_append, nb_len]; omega) (HI.out.id.1) (HI.out.id.2)).mono ?_
    rintro e u' ⟨rfl, v', h1, h2⟩
    exact ⟨rfl, v', h1, h2⟩
  case q4c =>
   intro G u2 hu
   obtain ⟨v2, hv2, hc2, _⟩ := hu
   have HV2 : Hid (Wv u2 pb v2 (l ++ nb 1 4 ++ nb 8 id)) := hv2
   have HC2 := hid hc2
   clear hv2 hc2 e0 e1
   simp only [RF.AG]
   go_wp2_with fail
   refine cvoid_end rfl rfl ⟨rfl, v2, ?_, ((Wc.rfl_ _ _ _).made KW.out).then_ (HC1.out.then_ HC2.out)⟩
   have h := HV2.out
   have e : orB (⟨4, id, a, b, x, y, vx, vy, an, sp, de, ln, k, r, ao, n, c, f⟩ : Or) = nb 1 4 ++ nb 8 id := rfl
   rw [e]
   skip
   simpa only [List.append_assoc] using h
theorem worder3_c {pb n c : Nat} {v : Value} {l : List Nat} {id a b x y vx vy an sp de ln k r : Int} {ao : Option Addr} {f : Cs} {w : World} (hW : Wv w pb v l) (hI : OrI (⟨3, id, a, b, x, y, vx, vy, an, sp, de, ln, k, r, ao, n, c, f⟩ : Or)) (hs : Sl w ao n f) (hX : 0 < n → Offs (OwnW pb v) ao) (hn : l.length + 16 * n + 200 ≤ 549755813888) :
  Calls Tryz.prog 26 #[.pointer (some ⟨pb, 0, none⟩), .agg #[.int .i64 3, .int .i64 id, .int .i64 a, .int .i64 b, .int .i64 x, .int .i64 y, .int .i64 vx, .int .i64 vy, .int .i64 an, .int .i64 sp, .int .i64 de, .int .i64 ln, .int .i64 k, .int .i64 r, .slice ao n c]] w fun e w' => e = .returned (.tuple #[]) ∧ ∃ v', Wv w' pb v' (l ++ orB (⟨3, id, a, b, x, y, vx, vy, an, sp, de, ln, k, r, ao, n, c, f⟩ : Or)) ∧ Wc pb w w' v v' := by
 have HW := hid hW
 have HS := hid hs
 have HX := hid hX
 have HI := hid hI
 have hk1 : -9223372036854775808 ≤ 3 := by omega
 have hk2 : 3 ≤ 9223372036854775807 := by omega
 obtain ⟨W, eW⟩ : ∃ W, W = w.alloc (.cells #[.int .i64 3, .int .i64 id, .int .i64 a, .int .i64 b, .int .i64 x, .int .i64 y, .int .i64 vx, .int .i64 vy, .int .i64 an, .int .i64 sp, .int .i64 de, .int .i64 ln, .int .i64 k, .int .i64 r, .slice ao n c] 49) := ⟨_, rfl⟩
 have KW : Hid (Made w.heap.size w W) := by unfold Hid; rw [eW]; exact (Made.rfl_ _ _).cells (Nat.le_refl _) _ _
 obtain ⟨g1, eg1⟩ : ∃ g, w.heap.size = g := ⟨_, rfl⟩
 have HB : Hid (Has W g1 49 #[.int .i64 3, .int .i64 id, .int .i64 a, .int .i64 b, .int .i64 x, .int .i64 y, .int .i64 vx, .int .i64 vy, .int .i64 an, .int .i64 sp, .int .i64 de, .int .i64 ln, .int .i64 k, .int .i64 r, .slice ao n c]) := by unfold Hid; rw [eW, ← eg1]; exact has_new _ _ _
 have HG : Hid (¬ OwnW pb v g1) := HW.out.off (.inr (Nat.le_of_eq eg1))
 have HW1 := hid (HW.out.kept KW.out)
 have d0 : W.cell? ⟨g1, 0, none⟩ = some (.int .i64 3) := HB.out.at_ 0
 clear hW hs hX hI
 go_enter Tryz.func26, Tryz.ntmps26
 go_upto_region 1 with fail
 rw [← eW]
 clear eW
 try rw [eg1]
 clear eg1
 refine RF.reg_flow (CW W pb v [l, l ++ nb 1 3] []) [[5]] [] [0, 1, 2, 3, 4] [(9, .pointer (some ⟨pb, 0, none⟩))] 90 (by kernel_rfl) (CW.start HW1.out) (by kernel_rfl) rfl (by kernel_rfl) (by kernel_rfl) ?_
 apply Exists.intro
 refine ⟨?q5a, ?q5b, ?q5c⟩
 case q5a =>
  intro s G Ty hT f hf
  have z0 := CW.reads hf d0 HG.out
  clear hf
  simp only [RF.putF, Act.put, List.setIfInBounds_toArray, List.set_cons_succ, List.set_cons_zero]
  change wpQuiet _ _ _ _ [_, _, _, _, _] _
  repeat (go_big_quiet_step (fail))
  exact wpQuiet_nil rfl
 case q5b =>
  refine ⟨⟨?_, trivial⟩, trivial⟩
  ·intro s G u hC hk hw
   rw [show (execOp _ _).run Tryz.prog u = .ok (.enter 19 #[.pointer (some ⟨pb, 0, none⟩), .int .i64 1, .int .i64 3]) u by kernel_rfl]
   refine CW.call hC hk rfl (fun d e => by cases e; rfl) fun v hv hc ha => ?_
   refine (wnum_c (m := 1) hv (by omega) (by show List.length (l)  ≤ _; omega) (by omega) (by omega)).mono ?_
   rintro e u' ⟨rfl, v', h1, h2⟩
   exact ⟨rfl, v', h1, h2⟩
 case q5c =>
  intro G u hu
  obtain ⟨v1, hv1, hc1, _⟩ := hu
  have HV1 : Hid (Wv u pb v1 (l ++ nb 1 3)) := hv1
  have HC1 := hid hc1
  have e0 := hc1.but.cell d0 HG.out
  have e2 : u.cell? ⟨g1, 2, none⟩ = some (.int .i64 a) := hc1.but.cell (HB.out.at_ 2) HG.out
  have e3 : u.cell? ⟨g1, 3, none⟩ = some (.int .i64 b) := hc1.but.cell (HB.out.at_ 3) HG.out
  have e4 : u.cell? ⟨g1, 4, none⟩ = some (.int .i64 x) := hc1.but.cell (HB.out.at_ 4) HG.out
  have e5 : u.cell? ⟨g1, 5, none⟩ = some (.int .i64 y) := hc1.but.cell (HB.out.at_ 5) HG.out
  have e6 : u.cell? ⟨g1, 6, none⟩ = some (.int .i64 vx) := hc1.but.cell (HB.out.at_ 6) HG.out
  have e7 : u.cell? ⟨g1, 7, none⟩ = some (.int .i64 vy) := hc1.but.cell (HB.out.at_ 7) HG.out
  have e11 : u.cell? ⟨g1, 11, none⟩ = some (.int .i64 ln) := hc1.but.cell (HB.out.at_ 11) HG.out
  have HG2 := hid (hc1.offs HB.out.here HG.out)
  have HS2 : Hid (Sl u ao n f) := (Sl.kept HS.out KW.out : Sl W ao n f) |> fun h hn => by
   obtain ⟨b, off, e, hp⟩ := h hn
   exact ⟨b, off, e, hp.but HC1.out.but (HX.out hn b off none e)⟩
  have HX2 : Hid (0 < n → Offs (OwnW pb v1) ao) := fun hn b off s e => by
   obtain ⟨b', off', e', hp⟩ := (Sl.kept HS.out KW.out : Sl W ao n f) hn
   rw [e] at e'; cases e'
   exact HC1.out.offs (World.block_lt_of_cell? _ _ (hp 0 hn).1) (HX.out hn b off none e)
  clear hv1 hc1 d0
  simp only [RF.AG]
  go_upto_region 10 with fail
  refine RF.reg_flow (CW u pb v1 [l ++ nb 1 3, l ++ nb 1 3 ++ nb 8 a, l ++ nb 1 3 ++ nb 8 a ++ nb 8 b, l ++ nb 1 3 ++ nb 8 a ++ nb 8 b ++ vB (c2 x y vx vy) 2, l ++ nb 1 3 ++ nb 8 a ++ nb 8 b ++ vB (c2 x y vx vy) 2 ++ fB (fun _ => ln) 1] [⟨13, 28, 2, #[.int .i64 x, .int .i64 y, .int .i64 vx, .int .i64 vy]⟩, ⟨17, 26, 1, #[.int .i64 ln]⟩]) [[5, 8, 14, 18], [13], [17]] [(13, 59), (17, 63)] [0, 1, 2, 3, 4, 6, 7, 9, 10, 11, 12, 15, 16] [(51, .pointer (some ⟨pb, 0, none⟩)), (54, .pointer (some ⟨pb, 0, none⟩)), (60, .pointer (some ⟨pb, 0, none⟩)), (64, .pointer (some ⟨pb, 0, none⟩))] 90 (by kernel_rfl) (CW.start HV1.out) (by kernel_rfl) rfl (by kernel_rfl) (by kernel_rfl) ?_
  apply Exists.intro
  refine ⟨?q6a, ?q6b, ?q6c⟩
  case q6a =>
   intro s G Ty hT f hf
   have z2 := CW.reads hf e2 HG2.out
   have z3 := CW.reads hf e3 HG2.out
   have z4 := CW.reads hf e4 HG2.out
   have z5 := CW.reads hf e5 HG2.out
   have z6 := CW.reads hf e6 HG2.out
   have z7 := CW.reads hf e7 HG2.out
   have z11 := CW.reads hf e11 HG2.out
   clear hf
   simp only [RF.putF, Act.put, List.setIfInBounds_toArray, List.set_cons_succ, List.set_cons_zero]
   change wpQuiet _ _ _ _ [_, _, _, _, _, _, _, _, _, _, _, _, _] _
   repeat (go_big_quiet_step (fail))
   exact wpQuiet_nil rfl
  case q6b =>
   refine ⟨⟨?_, ?_, ?_, ?_, trivial⟩, ⟨?_, trivial⟩, ⟨?_, trivial⟩, trivial⟩
   ·intro s G u hC hk hw
    rw [show (execOp _ _).run Tryz.prog u = .ok (.enter 19 #[.pointer (some ⟨pb, 0, none⟩), .int .i64 8, .int .i64 a]) u by kernel_rfl]
    refine CW.call hC hk rfl (fun d e => by cases e; rfl) fun v hv hc ha => ?_
    refine (wnum_c (m := 8) hv (by omega) (by show List.length (l ++ nb 1 3)  ≤ _; simp only [List.length_append, nb_len]; omega) (HI.out.a.1) (HI.out.a.2)).mono ?_
    rintro e u' ⟨rfl, v', h1, h2⟩
    exact ⟨rfl, v', h1, h2⟩
   ·intro s G u hC hk hw
    rw [show (execOp _ _).run Tryz.prog u = .ok (.enter 19 #[.pointer (some ⟨pb, 0, none⟩), .int .i64 8, .int .i64 b]) u by kernel_rfl]
    refine CW.call hC hk rfl (fun d e => by cases e; rfl) fun v hv hc ha => ?_
    refine (wnum_c (m := 8) hv (by omega) (by show List.length (l ++ nb 1 3 ++ nb 8 a)  ≤ _; simp only [List.length_append, nb_len]; omega) (HI.out.b.1) (HI.out.b.2)).mono ?_
    rintro e u' ⟨rfl, v', h1, h2⟩
    exact ⟨rfl, v', h1, h2⟩
   ·intro s G u hC hk hw
    rw [show (execOp _ _).run Tryz.prog u = .ok (.enter 20 #[.pointer (some ⟨pb, 0, none⟩), G 13]) u by kernel_rfl]
    refine CW.call hC hk rfl (fun d e => by cases e; rfl) fun v hv hc ha => ?_
    obtain ⟨g, eg, hg, og⟩ := ha 0 _ rfl (hw 1 0 13 rfl (by kernel_rfl))
    rw [show G 13 = _ from eg]
    refine (wv_c (n := 2) (c := 2) hv (sl2 hg) (fun _ => offs_of og (by omega)) (cin_c2 HI.out.x HI.out.y HI.out.vx HI.out.vy) (by show List.length (l ++ nb 1 3 ++ nb 8 a ++ nb 8 b) + 16 * 2 ≤ _; simp only [List.length_append, nb_len]; omega)).mono ?_
    rintro e u' ⟨rfl, v', h1, h2⟩
    exact ⟨rfl, v', h1, h2⟩
   ·intro s G u hC hk hw
    rw [show (execOp _ _).run Tryz.prog u = .ok (.enter 34 #[.pointer (some ⟨pb, 0, none⟩), G 17]) u by kernel_rfl]
    refine CW.call hC hk rfl (fun d e => by cases e; rfl) fun v hv hc ha => ?_
    obtain ⟨g, eg, hg, og⟩ := ha 1 _ rfl (hw 2 0 17 rfl (by kernel_rfl))
    rw [show G 17 = _ from eg]
    refine (wf_c (n := 1) (c := 1) hv (ns1 hg) (fun _ => offs_of og (by omega)) (fun _ _ => HI.out.ln) (by show List.length (l ++ nb 1 3 ++ nb 8 a ++ nb 8 b ++ vB (c2 x y vx vy) 2) + 8 * 1 ≤ _; simp only [List.length_append, nb_len, vB_len]; omega)).mono ?_
    rintro e u' ⟨rfl, v', h1, h2⟩
    exact ⟨rfl, v', h1, h2⟩
   ·intro s G u hC hk hw
    rw [show (execOp _ _).run Tryz.prog u = .ok (.value (.slice (some ⟨u.heap.size, 0, none⟩) 2 2)) (u.alloc (.cells #[.int .i64 x, .int .i64 y, .int .i64 vx, .int .i64 vy] 28)) by kernel_rfl]
    exact CW.make (i := 0) hC _ rfl rfl (fun i' a' h hne => by
     match i', h with
     | 0, h => exact absurd rfl hne
     | 1, h => cases h; exact Nat.ne_of_beq_eq_false rfl
     | n + 2, h => simp at h)
   ·intro s G u hC hk hw
    rw [show (execOp _ _).run Tryz.prog u = .ok (.value (.slice (some ⟨u.heap.size, 0, none⟩) 1 1)) (u.alloc (.cells #[.int .i64 ln] 26)) by kernel_rfl]
    exact CW.make (i := 1) hC _ rfl rfl (fun i' a' h hne => by
     match i', h with
     | 0, h => cases h; exact Nat.ne_of_beq_eq_false rfl
     | 1, h => exact absurd rfl hne
     | n + 2, h => simp at h)
  case q6c =>
   intro G u2 hu
   obtain ⟨v2, hv2, hc2, _⟩ := hu
   have HV2 : Hid (Wv u2 pb v2 (l ++ nb 1 3 ++ nb 8 a ++ nb 8 b ++ vB (c2 x y vx vy) 2 ++ fB (fun _ => ln) 1)) := hv2
   have HC2 := hid hc2
   clear hv2 hc2 e0 e2 e3 e4 e5 e6 e7 e11
   simp only [RF.AG, Act.put, List.setIfInBounds_toArray, List.set_cons_succ, List.set_cons_zero]
   go_wp2_with fail
   refine cvoid_end rfl rfl ⟨rfl, v2, ?_, ((Wc.rfl_ _ _ _).made KW.out).then_ (HC1.out.then_ HC2.out)⟩
   have h := HV2.out
   have e : orB (⟨3, id, a, b, x, y, vx, vy, an, sp, de, ln, k, r, ao, n, c, f⟩ : Or) = nb 1 3 ++ (nb 8 a ++ nb 8 b ++ (nb 8 x ++ nb 8 y ++ (nb 8 vx ++ nb 8 vy)) ++ nb 8 ln) := rfl
   rw [e]
   rw [vB2, fB1] at h
   simpa only [List.append_assoc] using h
theorem worder5_c {pb n c : Nat} {v : Value} {l : List Nat} {id a b x y vx vy an sp de ln k r : Int} {ao : Option Addr} {f : Cs} {w : World} (hW : Wv w pb v l) (hI : OrI (⟨5, id, a, b, x, y, vx, vy, an, sp, de, ln, k, r, ao, n, c, f⟩ : Or)) (hs : Sl w ao n f) (hX : 0 < n → Offs (OwnW pb v) ao) (hn : l.length + 16 * n + 200 ≤ 549755813888) :
  Calls Tryz.prog 26 #[.pointer (some ⟨pb, 0, none⟩), .agg #[.int .i64 5, .int .i64 id, .int .i64 a, .int .i64 b, .int .i64 x, .int .i64 y, .int .i64 vx, .int .i64 vy, .int .i64 an, .int .i64 sp, .int .i64 de, .int .i64 ln, .int .i64 k, .int .i64 r, .slice ao n c]] w fun e w' => e = .returned (.tuple #[]) ∧ ∃ v', Wv w' pb v' (l ++ orB (⟨5, id, a, b, x, y, vx, vy, an, sp, de, ln, k, r, ao, n, c, f⟩ : Or)) ∧ Wc pb w w' v v' := by
 have HW := hid hW
 have HS := hid hs
 have HX := hid hX
 have HI := hid hI
 have hk1 : -9223372036854775808 ≤ 5 := by omega
 have hk2 : 5 ≤ 9223372036854775807 := by omega
 obtain ⟨W, eW⟩ : ∃ W, W = w.alloc (.cells #[.int .i64 5, .int .i64 id, .int .i64 a, .int .i64 b, .int .i64 x, .int .i64 y, .int .i64 vx, .int .i64 vy, .int .i64 an, .int .i64 sp, .int .i64 de, .int .i64 ln, .int .i64 k, .int .i64 r, .slice ao n c] 49) := ⟨_, rfl⟩
 have KW : Hid (Made w.heap.size w W) := by unfold Hid; rw [eW]; exact (Made.rfl_ _ _).cells (Nat.le_refl _) _ _
 obtain ⟨g1, eg1⟩ : ∃ g, w.heap.size = g := ⟨_, rfl⟩
 have HB : Hid (Has W g1 49 #[.int .i64 5, .int .i64 id, .int .i64 a, .int .i64 b, .int .i64 x, .int .i64 y, .int .i64 vx, .int .i64 vy, .int .i64 an, .int .i64 sp, .int .i64 de, .int .i64 ln, .int .i64 k, .int .i64 r, .slice ao n c]) := by unfold Hid; rw [eW, ← eg1]; exact has_new _ _ _
 have HG : Hid (¬ OwnW pb v g1) := HW.out.off (.inr (Nat.le_of_eq eg1))
 have HW1 := hid (HW.out.kept KW.out)
 have d0 : W.cell? ⟨g1, 0, none⟩ = some (.int .i64 5) := HB.out.at_ 0
 clear hW hs hX hI
 go_enter Tryz.func26, Tryz.ntmps26
 go_upto_region 1 with fail
 rw [← eW]
 clear eW
 try rw [eg1]
 clear eg1
 refine RF.reg_flow (CW W pb v [l, l ++ nb 1 5] []) [[5]] [] [0, 1, 2, 3, 4] [(9, .pointer (some ⟨pb, 0, none⟩))] 90 (by kernel_rfl) (CW.start HW1.out) (by kernel_rfl) rfl (by kernel_rfl) (by kernel_rfl) ?_
 apply Exists.intro
 refine ⟨?q7a, ?q7b, ?q7c⟩
 case q7a =>
  intro s G Ty hT f hf
  have z0 := CW.reads hf d0 HG.out
  clear hf
  simp only [RF.putF, Act.put, List.setIfInBounds_toArray, List.set_cons_succ, List.set_cons_zero]
  change wpQuiet _ _ _ _ [_, _, _, _, _] _
  repeat (go_big_quiet_step (fail))
  exact wpQuiet_nil rfl
 case q7b =>
  refine ⟨⟨?_, trivial⟩, trivial⟩
  ·intro s G u hC hk hw
   rw [show (execOp _ _).run Tryz.prog u = .ok (.enter 19 #[.pointer (some ⟨pb, 0, none⟩), .int .i64 1, .int .i64 5]) u by kernel_rfl]
   refine CW.call hC hk rfl (fun d e => by cases e; rfl) fun v hv hc ha => ?_
   refine (wnum_c (m := 1) hv (by omega) (by show List.length (l)  ≤ _; omega) (by omega) (by omega)).mono ?_
   rintro e u' ⟨rfl, v', h1, h2⟩
   exact ⟨rfl, v', h1, h2⟩
 case q7c =>
  intro G u hu
  obtain ⟨v1, hv1, hc1, _⟩ := hu
  have HV1 : Hid (Wv u pb v1 (l ++ nb 1 5)) := hv1
  have HC1 := hid hc1
  have e0 := hc1.but.cell d0 HG.out
  have e1 : u.cell? ⟨g1, 1, none⟩ = some (.int .i64 id) := hc1.but.cell (HB.out.at_ 1) HG.out
  have e6 : u.cell? ⟨g1, 6, none⟩ = some (.int .i64 vx) := hc1.but.cell (HB.out.at_ 6) HG.out
  have e7 : u.cell? ⟨g1, 7, none⟩ = some (.int .i64 vy) := hc1.but.cell (HB.out.at_ 7) HG.out
  have e9 : u.cell? ⟨g1, 9, none⟩ = some (.int .i64 sp) := hc1.but.cell (HB.out.at_ 9) HG.out
  have HG2 := hid (hc1.offs HB.out.here HG.out)
  have HS2 : Hid (Sl u ao n f) := (Sl.kept HS.out KW.out : Sl W ao n f) |> fun h hn => by
   obtain ⟨b, off, e, hp⟩ := h hn
   exact ⟨b, off, e, hp.but HC1.out.but (HX.out hn b off none e)⟩
  have HX2 : Hid (0 < n → Offs (OwnW pb v1) ao) := fun hn b off s e => by
   obtain ⟨b', off', e', hp⟩ := (Sl.kept HS.out KW.out : Sl W ao n f) hn
   rw [e] at e'; cases e'
   exact HC1.out.offs (World.block_lt_of_cell? _ _ (hp 0 hn).1) (HX.out hn b off none e)
  clear hv1 hc1 d0
  simp only [RF.AG]
  go_upto_region 12 with fail
  refine RF.reg_flow (CW u pb v1 [l ++ nb 1 5, l ++ nb 1 5 ++ nb 8 id, l ++ nb 1 5 ++ nb 8 id ++ vB (c1 vx vy) 1, l ++ nb 1 5 ++ nb 8 id ++ vB (c1 vx vy) 1 ++ fB (fun _ => sp) 1] [⟨8, 28, 1, #[.int .i64 vx, .int .i64 vy]⟩, ⟨12, 26, 1, #[.int .i64 sp]⟩]) [[5, 9, 13], [8], [12]] [(8, 75), (12, 79)] [0, 1, 2, 3, 4, 6, 7, 10, 11] [(72, .pointer (some ⟨pb, 0, none⟩)), (76, .pointer (some ⟨pb, 0, none⟩)), (80, .pointer (some ⟨pb, 0, none⟩))] 90 (by kernel_rfl) (CW.start HV1.out) (by kernel_rfl) rfl (by kernel_rfl) (by kernel_rfl) ?_
  apply Exists.intro
  refine ⟨?q8a, ?q8b, ?q8c⟩
  case q8a =>
   intro s G Ty hT f hf
   have z1 := CW.reads hf e1 HG2.out
   have z6 := CW.reads hf e6 HG2.out
   have z7 := CW.reads hf e7 HG2.out
   have z9 := CW.reads hf e9 HG2.out
   clear hf
   simp only [RF.putF, Act.put, List.setIfInBounds_toArray, List.set_cons_succ, List.set_cons_zero]
   change wpQuiet _ _ _ _ [_, _, _, _, _, _, _, _, _] _
   repeat (go_big_quiet_step (fail))
   exact wpQuiet_nil rfl
  case q8b =>
   refine ⟨⟨?_, ?_, ?_, trivial⟩, ⟨?_, trivial⟩, ⟨?_, trivial⟩, trivial⟩
   ·intro s G u hC hk hw
    rw [show (execOp _ _).run Tryz.prog u = .ok (.enter 19 #[.pointer (some ⟨pb, 0, none⟩), .int .i64 8, .int .i64 id]) u by kernel_rfl]
    refine CW.call hC hk rfl (fun d e => by cases e; rfl) fun v hv hc ha => ?_
    refine (wnum_c (m := 8) hv (by omega) (by show List.length (l ++ nb 1 5)  ≤ _; simp only [List.length_append, nb_len]; omega) (HI.out.id.1) (HI.out.id.2)).mono ?_
    rintro e u' ⟨rfl, v', h1, h2⟩
    exact ⟨rfl, v', h1, h2⟩
   ·intro s G u hC hk hw
    rw [show (execOp _ _).run Tryz.prog u = .ok (.enter 20 #[.pointer (some ⟨pb, 0, none⟩), G 8]) u by kernel_rfl]
    refine CW.call hC hk rfl (fun d e => by cases e; rfl) fun v hv hc ha => ?_
    obtain ⟨g, eg, hg, og⟩ := ha 0 _ rfl (hw 1 0 8 rfl (by kernel_rfl))
    rw [show G 8 = _ from eg]
    refine (wv_c (n := 1) (c := 1) hv (sl1 hg) (fun _ => offs_of og (by omega)) (cin_c1 HI.out.vx HI.out.vy) (by show List.length (l ++ nb 1 5 ++ nb 8 id) + 16 * 1 ≤ _; simp only [List.length_append, nb_len]; omega)).mono ?_
    rintro e u' ⟨rfl, v', h1, h2⟩
    exact ⟨rfl, v', h1, h2⟩
   ·intro s G u hC hk hw
    rw [show (execOp _ _).run Tryz.prog u = .ok (.enter 34 #[.pointer (some ⟨pb, 0, none⟩), G 12]) u by kernel_rfl]
    refine CW.call hC hk rfl (fun d e => by cases e; rfl) fun v hv hc ha => ?_
    obtain ⟨g, eg, hg, og⟩ := ha 1 _ rfl (hw 2 0 12 rfl (by kernel_rfl))
    rw [show G 12 = _ from eg]
    refine (wf_c (n := 1) (c := 1) hv (ns1 hg) (fun _ => offs_of og (by omega)) (fun _ _ => HI.out.sp) (by show List.length (l ++ nb 1 5 ++ nb 8 id ++ vB (c1 vx vy) 1) + 8 * 1 ≤ _; simp only [List.length_append, nb_len, vB_len]; omega)).mono ?_
    rintro e u' ⟨rfl, v', h1, h2⟩
    exact ⟨rfl, v', h1, h2⟩
   ·intro s G u hC hk hw
    rw [show (execOp _ _).run Tryz.prog u = .ok (.value (.slice (some ⟨u.heap.size, 0, none⟩) 1 1)) (u.alloc (.cells #[.int .i64 vx, .int .i64 vy] 28)) by kernel_rfl]
    exact CW.make (i := 0) hC _ rfl rfl (fun i' a' h hne => by
     match i', h with
     | 0, h => exact absurd rfl hne
     | 1, h => cases h; exact Nat.ne_of_beq_eq_false rfl
     | n + 2, h => simp at h)
   ·intro s G u hC hk hw
    rw [show (execOp _ _).run Tryz.prog u = .ok (.value (.slice (some ⟨u.heap.size, 0, none⟩) 1 1)) (u.alloc (.cells #[.int .i64 sp] 26)) by kernel_rfl]
    exact CW.make (i := 1) hC _ rfl rfl (fun i' a' h hne => by
     match i', h with
     | 0, h => cases h; exact Nat.ne_of_beq_eq_false rfl
     | 1, h => exact absurd rfl hne
     | n + 2, h => simp at h)
  case q8c =>
   intro G u2 hu
   obtain ⟨v2, hv2, hc2, _⟩ := hu
   have HV2 : Hid (Wv u2 pb v2 (l ++ nb 1 5 ++ nb 8 id ++ vB (c1 vx vy) 1 ++ fB (fun _ => sp) 1)) := hv2
   have HC2 := hid hc2
   clear hv2 hc2 e0 e1 e6 e7 e9
   simp only [RF.AG, Act.put, List.setIfInBounds_toArray, List.set_cons_succ, List.set_cons_zero]
   go_wp2_with fail
   refine cvoid_end rfl rfl ⟨rfl, v2, ?_, ((Wc.rfl_ _ _ _).made KW.out).then_ (HC1.out.then_ HC2.out)⟩
   have h := HV2.out
   have e : orB (⟨5, id, a, b, x, y, vx, vy, an, sp, de, ln, k, r, ao, n, c, f⟩ : Or) = nb 1 5 ++ (nb 8 id ++ (nb 8 vx ++ nb 8 vy) ++ nb 8 sp) := rfl
   rw [e]
   rw [vB1, fB1] at h
   simpa only [List.append_assoc] using h
theorem worder6_c {pb n c : Nat} {v : Value} {l : List Nat} {id a b x y vx vy an sp de ln k r : Int} {ao : Option Addr} {f : Cs} {w : World} (hW : Wv w pb v l) (hI : OrI (⟨6, id, a, b, x, y, vx, vy, an, sp, de, ln, k, r, ao, n, c, f⟩ : Or)) (hs : Sl w ao n f) (hX : 0 < n → Offs (OwnW pb v) ao) (hn : l.length + 16 * n + 200 ≤ 549755813888) :
  Calls Tryz.prog 26 #[.pointer (some ⟨pb, 0, none⟩), .agg #[.int .i64 6, .int .i64 id, .int .i64 a, .int .i64 b, .int .i64 x, .int .i64 y, .int .i64 vx, .int .i64 vy, .int .i64 an, .int .i64 sp, .int .i64 de, .int .i64 ln, .int .i64 k, .int .i64 r, .slice ao n c]] w fun e w' => e = .returned (.tuple #[]) ∧ ∃ v', Wv w' pb v' (l ++ orB (⟨6, id, a, b, x, y, vx, vy, an, sp, de, ln, k, r, ao, n, c, f⟩ : Or)) ∧ Wc pb w w' v v' := by
 have HW := hid hW
 have HS := hid hs
 have HX := hid hX
 have HI := hid hI
 have hk1 : -9223372036854775808 ≤ 6 := by omega
 have hk2 : 6 ≤ 9223372036854775807 := by omega
 obtain ⟨W, eW⟩ : ∃ W, W = w.alloc (.cells #[.int .i64 6, .int .i64 id, .int .i64 a, .int .i64 b, .int .i64 x, .int .i64 y, .int .i64 vx, .int .i64 vy, .int .i64 an, .int .i64 sp, .int .i64 de, .int .i64 ln, .int .i64 k, .int .i64 r, .slice ao n c] 49) := ⟨_, rfl⟩
 have KW : Hid (Made w.heap.size w W) := by unfold Hid; rw [eW]; exact (Made.rfl_ _ _).cells (Nat.le_refl _) _ _
 obtain ⟨g1, eg1⟩ : ∃ g, w.heap.size = g := ⟨_, rfl⟩
 have HB : Hid (Has W g1 49 #[.int .i64 6, .int .i64 id, .int .i64 a, .int .i64 b, .int .i64 x, .int .i64 y, .int .i64 vx, .int .i64 vy, .int .i64 an, .int .i64 sp, .int .i64 de, .int .i64 ln, .int .i64 k, .int .i64 r, .slice ao n c]) := by unfold Hid; rw [eW, ← eg1]; exact has_new _ _ _
 have HG : Hid (¬ OwnW pb v g1) := HW.out.off (.inr (Nat.le_of_eq eg1))
 have HW1 := hid (HW.out.kept KW.out)
 have d0 : W.cell? ⟨g1, 0, none⟩ = some (.int .i64 6) := HB.out.at_ 0
 clear hW hs hX hI
 go_enter Tryz.func26, Tryz.ntmps26
 go_upto_region 1 with fail
 rw [← eW]
 clear eW
 try rw [eg1]
 clear eg1
 refine RF.reg_flow (CW W pb v [l, l ++ nb 1 6] []) [[5]] [] [0, 1, 2, 3, 4] [(9, .pointer (some ⟨pb, 0, none⟩))] 90 (by kernel_rfl) (CW.start HW1.out) (by kernel_rfl) rfl (by kernel_rfl) (by kernel_rfl) ?_
 apply Exists.intro
 refine ⟨?q9a, ?q9b, ?q9c⟩
 case q9a =>
  intro s G Ty hT f hf
  have z0 := CW.reads hf d0 HG.out
  clear hf
  simp only [RF.putF, Act.put, List.setIfInBounds_toArray, List.set_cons_succ, List.set_cons_zero]
  change wpQuiet _ _ _ _ [_, _, _, _, _] _
  repeat (go_big_quiet_step (fail))
  exact wpQuiet_nil rfl
 case q9b =>
  refine ⟨⟨?_, trivial⟩, trivial⟩
  ·intro s G u hC hk hw
   rw [show (execOp _ _).run Tryz.prog u = .ok (.enter 19 #[.pointer (some ⟨pb, 0, none⟩), .int .i64 1, .int .i64 6]) u by kernel_rfl]
   refine CW.call hC hk rfl (fun d e => by cases e; rfl) fun v hv hc ha => ?_
   refine (wnum_c (m := 1) hv (by omega) (by show List.length (l)  ≤ _; omega) (by omega) (by omega)).mono ?_
   rintro e u' ⟨rfl, v', h1, h2⟩
   exact ⟨rfl, v', h1, h2⟩
 case q9c =>
  intro G u hu
  obtain ⟨v1, hv1, hc1, _⟩ := hu
  have HV1 : Hid (Wv u pb v1 (l ++ nb 1 6)) := hv1
  have HC1 := hid hc1
  have e0 := hc1.but.cell d0 HG.out
  have e6 : u.cell? ⟨g1, 6, none⟩ = some (.int .i64 vx) := hc1.but.cell (HB.out.at_ 6) HG.out
  have e7 : u.cell? ⟨g1, 7, none⟩ = some (.int .i64 vy) := hc1.but.cell (HB.out.at_ 7) HG.out
  have HG2 := hid (hc1.offs HB.out.here HG.out)
  have HS2 : Hid (Sl u ao n f) := (Sl.kept HS.out KW.out : Sl W ao n f) |> fun h hn => by
   obtain ⟨b, off, e, hp⟩ := h hn
   exact ⟨b, off, e, hp.but HC1.out.but (HX.out hn b off none e)⟩
  have HX2 : Hid (0 < n → Offs (OwnW pb v1) ao) := fun hn b off s e => by
   obtain ⟨b', off', e', hp⟩ := (Sl.kept HS.out KW.out : Sl W ao n f) hn
   rw [e] at e'; cases e'
   exact HC1.out.offs (World.block_lt_of_cell? _ _ (hp 0 hn).1) (HX.out hn b off none e)
  clear hv1 hc1 d0
  simp only [RF.AG]
  go_upto_region 14 with fail
  refine RF.reg_flow (CW u pb v1 [l ++ nb 1 6, l ++ nb 1 6 ++ vB (c1 vx vy) 1] [⟨5, 28, 1, #[.int .i64 vx, .int .i64 vy]⟩]) [[6], [5]] [(5, 88)] [0, 1, 2, 3, 4] [(89, .pointer (some ⟨pb, 0, none⟩))] 90 (by kernel_rfl) (CW.start HV1.out) (by kernel_rfl) rfl (by kernel_rfl) (by kernel_rfl) ?_
  apply Exists.intro
  refine ⟨?q10a, ?q10b, ?q10c⟩
  case q10a =>
   intro s G Ty hT f hf
   have z6 := CW.reads hf e6 HG2.out
   have z7 := CW.reads hf e7 HG2.out
   clear hf
   simp only [RF.putF, Act.put, List.setIfInBounds_toArray, List.set_cons_succ, List.set_cons_zero]
   change wpQuiet _ _ _ _ [_, _, _, _, _] _
   repeat (go_big_quiet_step (fail))
   exact wpQuiet_nil rfl
  case q10b =>
   refine ⟨⟨?_, trivial⟩, ⟨?_, trivial⟩, trivial⟩
   ·intro s G u hC hk hw
    rw [show (execOp _ _).run Tryz.prog u = .ok (.enter 20 #[.pointer (some ⟨pb, 0, none⟩), G 5]) u by kernel_rfl]
    refine CW.call hC hk rfl (fun d e => by cases e; rfl) fun v hv hc ha => ?_
    obtain ⟨g, eg, hg, og⟩ := ha 0 _ rfl (hw 1 0 5 rfl (by kernel_rfl))
    rw [show G 5 = _ from eg]
    refine (wv_c (n := 1) (c := 1) hv (sl1 hg) (fun _ => offs_of og (by omega)) (cin_c1 HI.out.vx HI.out.vy) (by show List.length (l ++ nb 1 6) + 16 * 1 ≤ _; simp only [List.length_append, nb_len]; omega)).mono ?_
    rintro e u' ⟨rfl, v', h1, h2⟩
    exact ⟨rfl, v', h1, h2⟩
   ·intro s G u hC hk hw
    rw [show (execOp _ _).run Tryz.prog u = .ok (.value (.slice (some ⟨u.heap.size, 0, none⟩) 1 1)) (u.alloc (.cells #[.int .i64 vx, .int .i64 vy] 28)) by kernel_rfl]
    exact CW.make (i := 0) hC _ rfl rfl (fun i' a' h hne => by
     match i', h with
     | 0, h => exact absurd rfl hne
     | n + 1, h => simp at h)
  case q10c =>
   intro G u2 hu
   obtain ⟨v2, hv2, hc2, _⟩ := hu
   have HV2 : Hid (Wv u2 pb v2 (l ++ nb 1 6 ++ vB (c1 vx vy) 1)) := hv2
   have HC2 := hid hc2
   clear hv2 hc2 e0 e6 e7
   simp only [RF.AG, Act.put, List.setIfInBounds_toArray, List.set_cons_succ, List.set_cons_zero]
   go_wp2_with fail
   refine cvoid_end rfl rfl ⟨rfl, v2, ?_, ((Wc.rfl_ _ _ _).made KW.out).then_ (HC1.out.then_ HC2.out)⟩
   have h := HV2.out
   have e : orB (⟨6, id, a, b, x, y, vx, vy, an, sp, de, ln, k, r, ao, n, c, f⟩ : Or) = nb 1 6 ++ (nb 8 vx ++ nb 8 vy) := rfl
   rw [e]
   rw [vB1] at h
   simpa only [List.append_assoc] using h
theorem worder1_c {pb n c : Nat} {v : Value} {l : List Nat} {id a b x y vx vy an sp de ln k r : Int} {ao : Option Addr} {f : Cs} {w : World} (hW : Wv w pb v l) (hI : OrI (⟨1, id, a, b, x, y, vx, vy, an, sp, de, ln, k, r, ao, n, c, f⟩ : Or)) (hs : Sl w ao n f) (hX : 0 < n → Offs (OwnW pb v) ao) (hn : l.length + 16 * n + 200 ≤ 549755813888) :
  Calls Tryz.prog 26 #[.pointer (some ⟨pb, 0, none⟩), .agg #[.int .i64 1, .int .i64 id, .int .i64 a, .int .i64 b, .int .i64 x, .int .i64 y, .int .i64 vx, .int .i64 vy, .int .i64 an, .int .i64 sp, .int .i64 de, .int .i64 ln, .int .i64 k, .int .i64 r, .slice ao n c]] w fun e w' => e = .returned (.tuple #[]) ∧ ∃ v', Wv w' pb v' (l ++ orB (⟨1, id, a, b, x, y, vx, vy, an, sp, de, ln, k, r, ao, n, c, f⟩ : Or)) ∧ Wc pb w w' v v' := by
 have HW := hid hW
 have HS := hid hs
 have HX := hid hX
 have HI := hid hI
 have hk1 : -9223372036854775808 ≤ 1 := by omega
 have hk2 : 1 ≤ 9223372036854775807 := by omega
 obtain ⟨W, eW⟩ : ∃ W, W = w.alloc (.cells #[.int .i64 1, .int .i64 id, .int .i64 a, .int .i64 b, .int .i64 x, .int .i64 y, .int .i64 vx, .int .i64 vy, .int .i64 an, .int .i64 sp, .int .i64 de, .int .i64 ln, .int .i64 k, .int .i64 r, .slice ao n c] 49) := ⟨_, rfl⟩
 have KW : Hid (Made w.heap.size w W) := by unfold Hid; rw [eW]; exact (Made.rfl_ _ _).cells (Nat.le_refl _) _ _
 obtain ⟨g1, eg1⟩ : ∃ g, w.heap.size = g := ⟨_, rfl⟩
 have HB : Hid (Has W g1 49 #[.int .i64 1, .int .i64 id, .int .i64 a, .int .i64 b, .int .i64 x, .int .i64 y, .int .i64 vx, .int .i64 vy, .int .i64 an, .int .i64 sp, .int .i64 de, .int .i64 ln, .int .i64 k, .int .i64 r, .slice ao n c]) := by unfold Hid; rw [eW, ← eg1]; exact has_new _ _ _
 have HG : Hid (¬ OwnW pb v g1) := HW.out.off (.inr (Nat.le_of_eq eg1))
 have HW1 := hid (HW.out.kept KW.out)
 have d0 : W.cell? ⟨g1, 0, none⟩ = some (.int .i64 1) := HB.out.at_ 0
 clear hW hs hX hI
 go_enter Tryz.func26, Tryz.ntmps26
 go_upto_region 1 with fail
 rw [← eW]
 clear eW
 try rw [eg1]
 clear eg1
 refine RF.reg_flow (CW W pb v [l, l ++ nb 1 1] []) [[5]] [] [0, 1, 2, 3, 4] [(9, .pointer (some ⟨pb, 0, none⟩))] 90 (by kernel_rfl) (CW.start HW1.out) (by kernel_rfl) rfl (by kernel_rfl) (by kernel_rfl) ?_
 apply Exists.intro
 refine ⟨?q11a, ?q11b, ?q11c⟩
 case q11a =>
  intro s G Ty hT f hf
  have z0 := CW.reads hf d0 HG.out
  clear hf
  simp only [RF.putF, Act.put, List.setIfInBounds_toArray, List.set_cons_succ, List.set_cons_zero]
  change wpQuiet _ _ _ _ [_, _, _, _, _] _
  repeat (go_big_quiet_step (fail))
  exact wpQuiet_nil rfl
 case q11b =>
  refine ⟨⟨?_, trivial⟩, trivial⟩
  ·intro s G u hC hk hw
   rw [show (execOp _ _).run Tryz.prog u = .ok (.enter 19 #[.pointer (some ⟨pb, 0, none⟩), .int .i64 1, .int .i64 1]) u by kernel_rfl]
   refine CW.call hC hk rfl (fun d e => by cases e; rfl) fun v hv hc ha => ?_
   refine (wnum_c (m := 1) hv (by omega) (by show List.length (l)  ≤ _; omega) (by omega) (by omega)).mono ?_
   rintro e u' ⟨rfl, v', h1, h2⟩
   exact ⟨rfl, v', h1, h2⟩
 case q11c =>
  intro G u hu
  obtain ⟨v1, hv1, hc1, _⟩ := hu
  have HV1 : Hid (Wv u pb v1 (l ++ nb 1 1)) := hv1
  have HC1 := hid hc1
  have e0 := hc1.but.cell d0 HG.out
  have e4 : u.cell? ⟨g1, 4, none⟩ = some (.int .i64 x) := hc1.but.cell (HB.out.at_ 4) HG.out
  have e5 : u.cell? ⟨g1, 5, none⟩ = some (.int .i64 y) := hc1.but.cell (HB.out.at_ 5) HG.out
  have e6 : u.cell? ⟨g1, 6, none⟩ = some (.int .i64 vx) := hc1.but.cell (HB.out.at_ 6) HG.out
  have e7 : u.cell? ⟨g1, 7, none⟩ = some (.int .i64 vy) := hc1.but.cell (HB.out.at_ 7) HG.out
  have e8 : u.cell? ⟨g1, 8, none⟩ = some (.int .i64 an) := hc1.but.cell (HB.out.at_ 8) HG.out
  have e9 : u.cell? ⟨g1, 9, none⟩ = some (.int .i64 sp) := hc1.but.cell (HB.out.at_ 9) HG.out
  have e10 : u.cell? ⟨g1, 10, none⟩ = some (.int .i64 de) := hc1.but.cell (HB.out.at_ 10) HG.out
  have e12 : u.cell? ⟨g1, 12, none⟩ = some (.int .i64 k) := hc1.but.cell (HB.out.at_ 12) HG.out
  have e13 : u.cell? ⟨g1, 13, none⟩ = some (.int .i64 r) := hc1.but.cell (HB.out.at_ 13) HG.out
  have e14 : u.cell? ⟨g1, 14, none⟩ = some (.slice ao n c) := hc1.but.cell (HB.out.at_ 14) HG.out
  have HG2 := hid (hc1.offs HB.out.here HG.out)
  have HS2 : Hid (Sl u ao n f) := (Sl.kept HS.out KW.out : Sl W ao n f) |> fun h hn => by
   obtain ⟨b, off, e, hp⟩ := h hn
   exact ⟨b, off, e, hp.but HC1.out.but (HX.out hn b off none e)⟩
  have HX2 : Hid (0 < n → Offs (OwnW pb v1) ao) := fun hn b off s e => by
   obtain ⟨b', off', e', hp⟩ := (Sl.kept HS.out KW.out : Sl W ao n f) hn
   rw [e] at e'; cases e'
   exact HC1.out.offs (World.block_lt_of_cell? _ _ (hp 0 hn).1) (HX.out hn b off none e)
  clear hv1 hc1 d0
  simp only [RF.AG]
  go_upto_region 4 with fail
  refine RF.reg_flow (CW u pb v1 [l ++ nb 1 1, l ++ nb 1 1 ++ vB (c2 x y vx vy) 2, l ++ nb 1 1 ++ vB (c2 x y vx vy) 2 ++ fB (f3 an sp de) 3] [⟨7, 28, 2, #[.int .i64 x, .int .i64 y, .int .i64 vx, .int .i64 vy]⟩, ⟨15, 26, 3, #[.int .i64 an, .int .i64 sp, .int .i64 de]⟩]) [[8, 16], [7], [15]] [(7, 21), (15, 29)] [0, 1, 2, 3, 4, 5, 6, 9, 10, 11, 12, 13, 14] [(22, .pointer (some ⟨pb, 0, none⟩)), (30, .pointer (some ⟨pb, 0, none⟩))] 90 (by kernel_rfl) (CW.start HV1.out) (by kernel_rfl) rfl (by kernel_rfl) (by kernel_rfl) ?_
  apply Exists.intro
  refine ⟨?q12a, ?q12b, ?q12c⟩
  case q12a =>
   intro s G Ty hT f hf
   have z4 := CW.reads hf e4 HG2.out
   have z5 := CW.reads hf e5 HG2.out
   have z6 := CW.reads hf e6 HG2.out
   have z7 := CW.reads hf e7 HG2.out
   have z8 := CW.reads hf e8 HG2.out
   have z9 := CW.reads hf e9 HG2.out
   have z10 := CW.reads hf e10 HG2.out
   clear hf
   simp only [RF.putF, Act.put, List.setIfInBounds_toArray, List.set_cons_succ, List.set_cons_zero]
   change wpQuiet _ _ _ _ [_, _, _, _, _, _, _, _, _, _, _, _, _] _
   repeat (go_big_quiet_step (fail))
   exact wpQuiet_nil rfl
  case q12b =>
   refine ⟨⟨?_, ?_, trivial⟩, ⟨?_, trivial⟩, ⟨?_, trivial⟩, trivial⟩
   ·intro s G u hC hk hw
    rw [show (execOp _ _).run Tryz.prog u = .ok (.enter 20 #[.pointer (some ⟨pb, 0, none⟩), G 7]) u by kernel_rfl]
    refine CW.call hC hk rfl (fun d e => by cases e; rfl) fun v hv hc ha => ?_
    obtain ⟨g, eg, hg, og⟩ := ha 0 _ rfl (hw 1 0 7 rfl (by kernel_rfl))
    rw [show G 7 = _ from eg]
    refine (wv_c (n := 2) (c := 2) hv (sl2 hg) (fun _ => offs_of og (by omega)) (cin_c2 HI.out.x HI.out.y HI.out.vx HI.out.vy) (by show List.length (l ++ nb 1 1) + 16 * 2 ≤ _; simp only [List.length_append, nb_len]; omega)).mono ?_
    rintro e u' ⟨rfl, v', h1, h2⟩
    exact ⟨rfl, v', h1, h2⟩
   ·intro s G u hC hk hw
    rw [show (execOp _ _).run Tryz.prog u = .ok (.enter 34 #[.pointer (some ⟨pb, 0, none⟩), G 15]) u by kernel_rfl]
    refine CW.call hC hk rfl (fun d e => by cases e; rfl) fun v hv hc ha => ?_
    obtain ⟨g, eg, hg, og⟩ := ha 1 _ rfl (hw 2 0 15 rfl (by kernel_rfl))
    rw [show G 15 = _ from eg]
    refine (wf_c (n := 3) (c := 3) hv (ns3 hg) (fun _ => offs_of og (by omega)) (i64_f3 HI.out.an HI.out.sp HI.out.de) (by show List.length (l ++ nb 1 1 ++ vB (c2 x y vx vy) 2) + 8 * 3 ≤ _; simp only [List.length_append, nb_len, vB_len]; omega)).mono ?_
    rintro e u' ⟨rfl, v', h1, h2⟩
    exact ⟨rfl, v', h1, h2⟩
   ·intro s G u hC hk hw
    rw [show (execOp _ _).run Tryz.prog u = .ok (.value (.slice (some ⟨u.heap.size, 0, none⟩) 2 2)) (u.alloc (.cells #[.int .i64 x, .int .i64 y, .int .i64 vx, .int .i64 vy] 28)) by kernel_rfl]
    exact CW.make (i := 0) hC _ rfl rfl (fun i' a' h hne => by
     match i', h with
     | 0, h => exact absurd rfl hne
     | 1, h => cases h; exact Nat.ne_of_beq_eq_false rfl
     | n + 2, h => simp at h)
   ·intro s G u hC hk hw
    rw [show (execOp _ _).run Tryz.prog u = .ok (.value (.slice (some ⟨u.heap.size, 0, none⟩) 3 3)) (u.alloc (.cells #[.int .i64 an, .int .i64 sp, .int .i64 de] 26)) by kernel_rfl]
    exact CW.make (i := 1) hC _ rfl rfl (fun i' a' h hne => by
     match i', h with
     | 0, h => cases h; exact Nat.ne_of_beq_eq_false rfl
     | 1, h => exact absurd rfl hne
     | n + 2, h => simp at h)
  case q12c =>
   intro G u2 hu
   obtain ⟨v2, hv2, hc2, _⟩ := hu
   have HV2 : Hid (Wv u2 pb v2 (l ++ nb 1 1 ++ vB (c2 x y vx vy) 2 ++ fB (f3 an sp de) 3)) := hv2
   have HC2 := hid hc2
   have y12 := hc2.but.cell e12 HG2.out
   have y13 := hc2.but.cell e13 HG2.out
   have y14 := hc2.but.cell e14 HG2.out
   have hl2 : Hid ((l ++ nb 1 1 ++ vB (c2 x y vx vy) 2 ++ fB (f3 an sp de) 3).length + 16 * n + 32 ≤ 549755813888) := by unfold Hid; simp only [List.length_append, nb_len, vB_len, fB_len]; omega
   have HCC := hid (wshape_c (c := c) HV2.out HI.out.k HI.out.r (fun h => by obtain ⟨b, off, e, hp⟩ := HS2.out h; exact ⟨b, off, e, hp.but HC2.out.but (HX2.out h b off none e)⟩) (fun h b off s e => by obtain ⟨b', off', e', hp⟩ := HS2.out h; rw [e] at e'; cases e'; exact HC2.out.offs (World.block_lt_of_cell? _ _ (hp 0 h).1) (HX2.out h b off none e)) HI.out.f hl2.out)
   clear hv2 hc2 e0 e4 e5 e6 e7 e8 e9 e10 e12 e13 e14
   simp only [RF.AG, Act.put, List.setIfInBounds_toArray, List.set_cons_succ, List.set_cons_zero]
   go_wp2_with fail
   refine HCC.out.mono ?_
   rintro e u3 ⟨rfl, v3, hv3, hc3⟩
   have HV3 := hid hv3
   have HC3 := hid hc3
   clear hv3 hc3 y12 y13 y14
   go_wp2_with fail
   refine cvoid_end rfl rfl ⟨rfl, v3, ?_, ((Wc.rfl_ _ _ _).made KW.out).then_ (HC1.out.then_ (HC2.out.then_ HC3.out))⟩
   have h := HV3.out
   have e : orB (⟨1, id, a, b, x, y, vx, vy, an, sp, de, ln, k, r, ao, n, c, f⟩ : Or) = nb 1 1 ++ (nb 8 x ++ nb 8 y ++ (nb 8 vx ++ nb 8 vy) ++ (nb 8 an ++ nb 8 sp ++ nb 8 de) ++ shB k r n f) := rfl
   rw [e]
   rw [vB2, fB3] at h
   simpa only [List.append_assoc] using h
theorem worder0_c {pb n c : Nat} {v : Value} {l : List Nat} {kd id a b x y vx vy an sp de ln k r : Int} {ao : Option Addr} {f : Cs} {w : World} (hW : Wv w pb v l) (hI : OrI (⟨kd, id, a, b, x, y, vx, vy, an, sp, de, ln, k, r, ao, n, c, f⟩ : Or)) (hs : Sl w ao n f) (hX : 0 < n → Offs (OwnW pb v) ao) (hn : l.length + 16 * n + 200 ≤ 549755813888) (h1 : kd ≠ 1) (h2 : kd ≠ 2) (h3 : kd ≠ 3) (h4 : kd ≠ 4) (h5 : kd ≠ 5) (h6 : kd ≠ 6) :
  Calls Tryz.prog 26 #[.pointer (some ⟨pb, 0, none⟩), .agg #[.int .i64 kd, .int .i64 id, .int .i64 a, .int .i64 b, .int .i64 x, .int .i64 y, .int .i64 vx, .int .i64 vy, .int .i64 an, .int .i64 sp, .int .i64 de, .int .i64 ln, .int .i64 k, .int .i64 r, .slice ao n c]] w fun e w' => e = .returned (.tuple #[]) ∧ ∃ v', Wv w' pb v' (l ++ orB (⟨kd, id, a, b, x, y, vx, vy, an, sp, de, ln, k, r, ao, n, c, f⟩ : Or)) ∧ Wc pb w w' v v' := by
 have q1 : (kd == 1) = false := by rw [beq_eq_false_iff_ne]; exact h1
 have q2 : (kd == 2) = false := by rw [beq_eq_false_iff_ne]; exact h2
 have q3 : (kd == 3) = false := by rw [beq_eq_false_iff_ne]; exact h3
 have q4 : (kd == 4) = false := by rw [beq_eq_false_iff_ne]; exact h4
 have q5 : (kd == 5) = false := by rw [beq_eq_false_iff_ne]; exact h5
 have q6 : (kd == 6) = false := by rw [beq_eq_false_iff_ne]; exact h6
 have HW := hid hW
 have HS := hid hs
 have HX := hid hX
 have HI := hid hI
 have hk1 : -9223372036854775808 ≤ kd := hI.kd.1
 have hk2 : kd ≤ 9223372036854775807 := hI.kd.2
 obtain ⟨W, eW⟩ : ∃ W, W = w.alloc (.cells #[.int .i64 kd, .int .i64 id, .int .i64 a, .int .i64 b, .int .i64 x, .int .i64 y, .int .i64 vx, .int .i64 vy, .int .i64 an, .int .i64 sp, .int .i64 de, .int .i64 ln, .int .i64 k, .int .i64 r, .slice ao n c] 49) := ⟨_, rfl⟩
 have KW : Hid (Made w.heap.size w W) := by unfold Hid; rw [eW]; exact (Made.rfl_ _ _).cells (Nat.le_refl _) _ _
 obtain ⟨g1, eg1⟩ : ∃ g, w.heap.size = g := ⟨_, rfl⟩
 have HB : Hid (Has W g1 49 #[.int .i64 kd, .int .i64 id, .int .i64 a, .int .i64 b, .int .i64 x, .int .i64 y, .int .i64 vx, .int .i64 vy, .int .i64 an, .int .i64 sp, .int .i64 de, .int .i64 ln, .int .i64 k, .int .i64 r, .slice ao n c]) := by unfold Hid; rw [eW, ← eg1]; exact has_new _ _ _
 have HG : Hid (¬ OwnW pb v g1) := HW.out.off (.inr (Nat.le_of_eq eg1))
 have HW1 := hid (HW.out.kept KW.out)
 have d0 : W.cell? ⟨g1, 0, none⟩ = some (.int .i64 kd) := HB.out.at_ 0
 clear hW hs hX hI
 go_enter Tryz.func26, Tryz.ntmps26
 go_upto_region 1 with fail
 rw [← eW]
 clear eW
 try rw [eg1]
 clear eg1
 refine RF.reg_flow (CW W pb v [l, l ++ nb 1 kd] []) [[5]] [] [0, 1, 2, 3, 4] [(9, .pointer (some ⟨pb, 0, none⟩))] 90 (by kernel_rfl) (CW.start HW1.out) (by kernel_rfl) rfl (by kernel_rfl) (by kernel_rfl) ?_
 apply Exists.intro
 refine ⟨?q13a, ?q13b, ?q13c⟩
 case q13a =>
  intro s G Ty hT f hf
  have z0 := CW.reads hf d0 HG.out
  clear hf
  simp only [RF.putF, Act.put, List.setIfInBounds_toArray, List.set_cons_succ, List.set_cons_zero]
  change wpQuiet _ _ _ _ [_, _, _, _, _] _
  repeat (go_big_quiet_step (fail))
  exact wpQuiet_nil rfl
 case q13b =>
  refine ⟨⟨?_, trivial⟩, trivial⟩
  ·intro s G u hC hk hw
   rw [show (execOp _ _).run Tryz.prog u = .ok (.enter 19 #[.pointer (some ⟨pb, 0, none⟩), .int .i64 1, .int .i64 kd]) u by kernel_rfl]
   refine CW.call hC hk rfl (fun d e => by cases e; rfl) fun v hv hc ha => ?_
   refine (wnum_c (m := 1) hv (by omega) (by show List.length (l)  ≤ _; omega) (by omega) (by omega)).mono ?_
   rintro e u' ⟨rfl, v', h1, h2⟩
   exact ⟨rfl, v', h1, h2⟩
 case q13c =>
  intro G u hu
  obtain ⟨v1, hv1, hc1, _⟩ := hu
  have HV1 : Hid (Wv u pb v1 (l ++ nb 1 kd)) := hv1
  have HC1 := hid hc1
  have e0 := hc1.but.cell d0 HG.out
  have HG2 := hid (hc1.offs HB.out.here HG.out)
  have HS2 : Hid (Sl u ao n f) := (Sl.kept HS.out KW.out : Sl W ao n f) |> fun h hn => by
   obtain ⟨b, off, e, hp⟩ := h hn
   exact ⟨b, off, e, hp.but HC1.out.but (HX.out hn b off none e)⟩
  have HX2 : Hid (0 < n → Offs (OwnW pb v1) ao) := fun hn b off s e => by
   obtain ⟨b', off', e', hp⟩ := (Sl.kept HS.out KW.out : Sl W ao n f) hn
   rw [e] at e'; cases e'
   exact HC1.out.offs (World.block_lt_of_cell? _ _ (hp 0 hn).1) (HX.out hn b off none e)
  clear hv1 hc1 d0
  simp only [RF.AG]
  go_wp2_with fail
  refine cvoid_end rfl rfl ⟨rfl, v1, ?_, ((Wc.rfl_ _ _ _).made KW.out).then_ HC1.out⟩
  unfold orB
  rw [if_neg h1, if_neg (fun h => h.elim h2 h4), if_neg h3, if_neg h5, if_neg h6, List.append_nil]
  exact HV1.out
theorem worder_c {pb : Nat} {v : Value} {l : List Nat} (o : Or) {w : World} (hW : Wv w pb v l) (hI : OrI o) (hs : Sl w o.ao o.n o.f) (hX : 0 < o.n → Offs (OwnW pb v) o.ao) (hn : l.length + 16 * o.n + 200 ≤ 549755813888) :
  Calls Tryz.prog 26 #[.pointer (some ⟨pb, 0, none⟩), orV o] w fun e w' => e = .returned (.tuple #[]) ∧ ∃ v', Wv w' pb v' (l ++ orB o) ∧ Wc pb w w' v v' := by
 obtain ⟨kd, id, a, b, x, y, vx, vy, an, sp, de, ln, k, r, ao, n, c, f⟩ := o
 by_cases h1 : kd = 1
 ·subst h1; exact worder1_c hW hI hs hX hn
 by_cases h2 : kd = 2
 ·subst h2; exact worder2_c hW hI hs hX hn
 by_cases h3 : kd = 3
 ·subst h3; exact worder3_c hW hI hs hX hn
 by_cases h4 : kd = 4
 ·subst h4; exact worder4_c hW hI hs hX hn
 by_cases h5 : kd = 5
 ·subst h5; exact worder5_c hW hI hs hX hn
 by_cases h6 : kd = 6
 ·subst h6; exact worder6_c hW hI hs hX hn
 ·exact worder0_c hW hI hs hX hn h1 h2 h3 h4 h5 h6
end Go.Proofs.YtgdcphmmehedoaaGreat.Fx