/- SoD SoE SoF SoG -/
import Derived.Test.YtjhcejmfiekjgaaGreatSt18
set_option maxRecDepth 100000
set_option maxHeartbeats 64000000
/- Package solve: a tie's pull. -/
namespace Go.Proofs.YtjhcejmfiekjgaaGreat.Fx
open Go.ChangeShapes Go.WideShapes Go.ChangeAt Go.RowKit
set_option linter.unusedVariables false
theorem neg_is1 (a r : Int) (w : World) (ha : I64 a) (e : negF a = r) : Calls Tryz.prog 34 #[.int .i64 a] w fun e w' => e = .returned (.int .i64 r) ∧ w = w' := by subst e; exact neg_c a w ha
theorem pull_c {t : TypeId} {g n i k : Nat} {L : List Bd} {a b0 b : Bd} (tA tB nx ny trax tray trbx trby G Off : Int) (m1 i1 v1 s1 m2 i2 v2 s2 rax ray rbx rby : Int)
  (spx spy sax say sqx sqy sbx sby sdx sdy r sm ms nm px py : Int) (ux uy ax ay cc dd asp qx qy bx by_ ee ff bsp : Int) (w : World)
  (hL : RowL encB 11 w g t n L) (hi : L[i]? = some a) (hk0 : L[k]? = some b0) (hk : (L.set i { a with vx := ax, vy := ay, sp := asp })[k]? = some b) (hA : BdI a) (hB0 : BdI b0) (hB : BdI b)
  (h1 : I64 rax) (h2 : I64 ray) (h3 : I64 rbx) (h4 : I64 rby) (h5 : I64 nx) (h6 : I64 ny) (h7 : I64 v1) (h8 : I64 s1) (h9 : I64 v2) (h10 : I64 s2) (h11 : I64 G) (h12 : I64 Off)
  (ep : Hid (mulF (negF ray) a.sp = spx)) (ep' : Hid (mulF rax a.sp = spy)) (ea0 : Hid (addF a.vx spx = sax)) (ea0' : Hid (addF a.vy spy = say))
  (eq0 : Hid (mulF (negF rby) b0.sp = sqx)) (eq0' : Hid (mulF rbx b0.sp = sqy)) (eb0 : Hid (addF b0.vx sqx = sbx)) (eb0' : Hid (addF b0.vy sqy = sby))
  (ed0 : Hid (subF sbx sax = sdx)) (ed0' : Hid (subF sby say = sdy)) (er : Hid (addF (mulF sdx nx) (mulF sdy ny) = r))
  (em : Hid (addF r Off = sm)) (em' : Hid (mulF G sm = ms)) (en : Hid (negF ms = nm)) (epx : Hid (mulF nx nm = px)) (epy : Hid (mulF ny nm = py))
  (eu : Hid (mulF px v1 = ux)) (eu' : Hid (mulF py v1 = uy)) (ea : Hid (subF a.vx ux = ax)) (ea' : Hid (subF a.vy uy = ay))
  (ec : Hid (subF (mulF rax py) (mulF ray px) = cc)) (ed : Hid (mulF s1 cc = dd)) (es : Hid (subF a.sp dd = asp))
  (eq : Hid (mulF px v2 = qx)) (eq' : Hid (mulF py v2 = qy)) (eb : Hid (addF b.vx qx = bx)) (eb' : Hid (addF b.vy qy = by_))
  (ee_ : Hid (subF (mulF rbx py) (mulF rby px) = ee)) (ef : Hid (mulF s2 ee = ff)) (et : Hid (addF b.sp ff = bsp)) :
  Calls Tryz.prog 47 #[.agg #[.int .i64 tA, .int .i64 tB, .int .i64 nx, .int .i64 ny, .int .i64 trax, .int .i64 tray, .int .i64 trbx, .int .i64 trby, .int .i64 G, .int .i64 Off,
   .pointer (some ⟨g, i * 11, none⟩), .pointer (some ⟨g, k * 11, none⟩), .int .i64 m1, .int .i64 i1, .int .i64 v1, .int .i64 s1, .int .i64 m2, .int .i64 i2, .int .i64 v2, .int .i64 s2, .int .i64 rax, .int .i64 ray, .int .i64 rbx, .int .i64 rby]] w
   fun e v => e = .returned (.tuple #[]) ∧ But (fun x => x = g) w v ∧ RowL encB 11 v g t n ((L.set i { a with vx := ax, vy := ay, sp := asp }).set k { b with vx := bx, vy := by_, sp := bsp }) := by
 have jr : I64 r := by rw [← er.out]; exact i64_add _ _
 have jm : I64 sm := by rw [← em.out]; exact i64_add _ _
 have jm' : I64 ms := by rw [← em'.out]; exact i64_mul _ _
 have jn : I64 nm := by rw [← en.out]; exact i64_neg jm'
 have jp : I64 px := by rw [← epx.out]; exact i64_mul _ _
 have jp' : I64 py := by rw [← epy.out]; exact i64_mul _ _
 have lg := hL.here
 have k0 := hA.vx
 have k1 := hA.vy
 have k2 := hA.sp
 have k3 := hB0.vx
 have k4 := hB0.vy
 have k5 := hB0.sp
 obtain ⟨oa, hoa⟩ : ∃ o, i * 11 = o := ⟨_, rfl⟩
 obtain ⟨ob, hob⟩ : ∃ o, k * 11 = o := ⟨_, rfl⟩
 have c3 : w.cell? ⟨g, oa + 3, none⟩ = some (.int .i64 a.vx) := by rw [← hoa]; exact hL.at1 encB_len hi rfl
 have c4 : w.cell? ⟨g, oa + 4, none⟩ = some (.int .i64 a.vy) := by rw [← hoa]; exact hL.at1 encB_len hi rfl
 have c6 : w.cell? ⟨g, oa + 6, none⟩ = some (.int .i64 a.sp) := by rw [← hoa]; exact hL.at1 encB_len hi rfl
 have d3 : w.cell? ⟨g, ob + 3, none⟩ = some (.int .i64 b0.vx) := by rw [← hob]; exact hL.at1 encB_len hk0 rfl
 have d4 : w.cell? ⟨g, ob + 4, none⟩ = some (.int .i64 b0.vy) := by rw [← hob]; exact hL.at1 encB_len hk0 rfl
 have d6 : w.cell? ⟨g, ob + 6, none⟩ = some (.int .i64 b0.sp) := by rw [← hob]; exact hL.at1 encB_len hk0 rfl
 have HL := hid hL
 have HA := hid hA
 have HB := hid hB
 have HI := hid hi
 have HK := hid hk
 rw [hoa, hob]
 have HO := hid hoa
 have HO' := hid hob
 clear hoa hob hL hA hB hB0 hi hk hk0
 go_enter Tryz.func47, Tryz.ntmps47
 go_upto_region 1 with fail
 refine reg_made (by kernel_rfl) (by kernel_rfl) ?_
 intro T hT f hf
 have y2 := Class.reads hf (p := ⟨w.heap.size, 2, none⟩) (u := .int .i64 nx) (by go_simp)
 have y3 := Class.reads hf (p := ⟨w.heap.size, 3, none⟩) (u := .int .i64 ny) (by go_simp)
 have y8 := Class.reads hf (p := ⟨w.heap.size, 8, none⟩) (u := .int .i64 G) (by go_simp)
 have y9 := Class.reads hf (p := ⟨w.heap.size, 9, none⟩) (u := .int .i64 Off) (by go_simp)
 have y10 := Class.reads hf (p := ⟨w.heap.size, 10, none⟩) (u := .pointer (some ⟨g, oa, none⟩)) (by go_simp)
 have y11 := Class.reads hf (p := ⟨w.heap.size, 11, none⟩) (u := .pointer (some ⟨g, ob, none⟩)) (by go_simp)
 have y12 := Class.reads hf (p := ⟨w.heap.size, 12, none⟩) (u := .int .i64 m1) (by go_simp)
 have y13 := Class.reads hf (p := ⟨w.heap.size, 13, none⟩) (u := .int .i64 i1) (by go_simp)
 have y14 := Class.reads hf (p := ⟨w.heap.size, 14, none⟩) (u := .int .i64 v1) (by go_simp)
 have y15 := Class.reads hf (p := ⟨w.heap.size, 15, none⟩) (u := .int .i64 s1) (by go_simp)
 have y16 := Class.reads hf (p := ⟨w.heap.size, 16, none⟩) (u := .int .i64 m2) (by go_simp)
 have y17 := Class.reads hf (p := ⟨w.heap.size, 17, none⟩) (u := .int .i64 i2) (by go_simp)
 have y18 := Class.reads hf (p := ⟨w.heap.size, 18, none⟩) (u := .int .i64 v2) (by go_simp)
 have y19 := Class.reads hf (p := ⟨w.heap.size, 19, none⟩) (u := .int .i64 s2) (by go_simp)
 have y20 := Class.reads hf (p := ⟨w.heap.size, 20, none⟩) (u := .int .i64 rax) (by go_simp)
 have y21 := Class.reads hf (p := ⟨w.heap.size, 21, none⟩) (u := .int .i64 ray) (by go_simp)
 have y22 := Class.reads hf (p := ⟨w.heap.size, 22, none⟩) (u := .int .i64 rbx) (by go_simp)
 have y23 := Class.reads hf (p := ⟨w.heap.size, 23, none⟩) (u := .int .i64 rby) (by go_simp)
 have c3' := Class.reads hf (p := ⟨g, oa + 3, none⟩) (u := .int .i64 a.vx) (by go_simp)
 have c4' := Class.reads hf (p := ⟨g, oa + 4, none⟩) (u := .int .i64 a.vy) (by go_simp)
 have c6' := Class.reads hf (p := ⟨g, oa + 6, none⟩) (u := .int .i64 a.sp) (by go_simp)
 have d3' := Class.reads hf (p := ⟨g, ob + 3, none⟩) (u := .int .i64 b0.vx) (by go_simp)
 have d4' := Class.reads hf (p := ⟨g, ob + 4, none⟩) (u := .int .i64 b0.vy) (by go_simp)
 have d6' := Class.reads hf (p := ⟨g, ob + 6, none⟩) (u := .int .i64 b0.sp) (by go_simp)
 repeat (go_big_quiet_step ((first
  | (go_at_call 86; exact hf.made (speed_c g oa g ob m1 i1 v1 s1 m2 i2 v2 s2 rax ray rbx rby nx ny a.vx a.vy a.sp b0.vx b0.vy b0.sp spx spy sax say sqx sqy sbx sby sdx sdy r _ h1 h2 h3 h4 h5 h6 k0 k1 k2 k3 k4 k5 (c3' _) (c4' _) (c6' _) (d3' _) (d4' _) (d6' _) ep ep' ea0 ea0' eq0 eq0' eb0 eb0' ed0 ed0' er))
  | (go_at_call 26; with_reducible exact hf.same (add_is r Off sm _ jr h12 em.out))
  | (go_at_call 12; with_reducible exact hf.same (mul_is G sm ms _ h11 jm em'.out)))))
 refine wpQuiet_nil ?_
 intro w1 g1
 have hb := hf.here g1
 have x2 := hb.reads (p := ⟨w.heap.size, 2, none⟩) (x := .int .i64 nx) (by go_simp)
 have x3 := hb.reads (p := ⟨w.heap.size, 3, none⟩) (x := .int .i64 ny) (by go_simp)
 have x10 := hb.reads (p := ⟨w.heap.size, 10, none⟩) (x := .pointer (some ⟨g, oa, none⟩)) (by go_simp)
 have x11 := hb.reads (p := ⟨w.heap.size, 11, none⟩) (x := .pointer (some ⟨g, ob, none⟩)) (by go_simp)
 have x12 := hb.reads (p := ⟨w.heap.size, 12, none⟩) (x := .int .i64 m1) (by go_simp)
 have x13 := hb.reads (p := ⟨w.heap.size, 13, none⟩) (x := .int .i64 i1) (by go_simp)
 have x14 := hb.reads (p := ⟨w.heap.size, 14, none⟩) (x := .int .i64 v1) (by go_simp)
 have x15 := hb.reads (p := ⟨w.heap.size, 15, none⟩) (x := .int .i64 s1) (by go_simp)
 have x16 := hb.reads (p := ⟨w.heap.size, 16, none⟩) (x := .int .i64 m2) (by go_simp)
 have x17 := hb.reads (p := ⟨w.heap.size, 17, none⟩) (x := .int .i64 i2) (by go_simp)
 have x18 := hb.reads (p := ⟨w.heap.size, 18, none⟩) (x := .int .i64 v2) (by go_simp)
 have x19 := hb.reads (p := ⟨w.heap.size, 19, none⟩) (x := .int .i64 s2) (by go_simp)
 have x20 := hb.reads (p := ⟨w.heap.size, 20, none⟩) (x := .int .i64 rax) (by go_simp)
 have x21 := hb.reads (p := ⟨w.heap.size, 21, none⟩) (x := .int .i64 ray) (by go_simp)
 have x22 := hb.reads (p := ⟨w.heap.size, 22, none⟩) (x := .int .i64 rbx) (by go_simp)
 have x23 := hb.reads (p := ⟨w.heap.size, 23, none⟩) (x := .int .i64 rby) (by go_simp)
 have KM := hid (made_box hb)
 clear hb hf g1 c3 c4 c6 d3 d4 d6 c3' c4' c6' d3' d4' d6' y2 y3 y8 y9 y10 y11 y12 y13 y14 y15 y16 y17 y18 y19 y20 y21 y22 y23
 go_upto_region 2 with fail
 refine reg_made_tail 8 (by kernel_rfl) (by kernel_rfl) ?_
 intro T hT f hf
 have y2 := Class.reads hf x2
 have y3 := Class.reads hf x3
 have y10 := Class.reads hf x10
 have y11 := Class.reads hf x11
 have y12 := Class.reads hf x12
 have y13 := Class.reads hf x13
 have y14 := Class.reads hf x14
 have y15 := Class.reads hf x15
 have y16 := Class.reads hf x16
 have y17 := Class.reads hf x17
 have y18 := Class.reads hf x18
 have y19 := Class.reads hf x19
 have y20 := Class.reads hf x20
 have y21 := Class.reads hf x21
 have y22 := Class.reads hf x22
 have y23 := Class.reads hf x23
 simp only [List.take_succ_cons, List.take_zero, List.drop_succ_cons, List.drop_zero]
 repeat (go_big_quiet_step ((first
  | (go_at_call 34; with_reducible exact hf.same (neg_is1 ms nm _ jm' en.out))
  | (go_at_call 85; with_reducible exact hf.made (vscale_is nx ny nm px py _ h5 h6 jn epx.out epy.out)))))
 refine wpQuiet_nil ?_
 intro w2 g2
 have hb := hf.here g2
 have K2 := hid (KM.out.then_ (hb.low KM.out.1.size))
 have L2 := HL.out.stays K2.out lg
 have hap := apply_c m1 i1 v1 s1 m2 i2 v2 s2 rax ray rbx rby px py ux uy ax ay cc dd asp qx qy bx by_ ee ff bsp w2 L2 HI.out HK.out HA.out HB.out h1 h2 h3 h4 jp jp' h7 h8 h9 h10 eu eu' ea ea' ec ed es eq eq' eb eb' ee_ ef et
 rw [HO.out, HO'.out] at hap
 have HAP := hid hap
 clear hap hb hf g2 L2
 go_wp2_with fail
 refine HAP.out.mono ?_
 rintro e v ⟨rfl, kb, kl⟩
 have KB := hid kb
 have KL := hid kl
 clear kb kl HAP
 go_wp2_with fail
 exact bodyPost_end (results_none rfl _ _ _) rfl ⟨rfl, K2.out.but.then_ KB.out, KL.out⟩
end Go.Proofs.YtjhcejmfiekjgaaGreat.Fx
/- Package solve: a row begins with what it pushed with before. -/
namespace Go.Proofs.YtjhcejmfiekjgaaGreat.Fx
open Go.ChangeShapes Go.WideShapes Go.ChangeAt Go.RowKit
set_option linter.unusedVariables false
theorem begin_c {t : TypeId} {g n i k gr og : Nat} {L : List Bd} {a b : Bd} (nx ny N T : Int) (m1 i1 v1 s1 m2 i2 v2 s2 rax ray rbx rby : Int)
  (sx sy lx tx ty px py : Int) (ux uy ax ay cc dd asp qx qy bx by_ ee ff bsp : Int) (w : World)
  (hL : RowL encB 11 w g t n L) (hi : L[i]? = some a) (hk : (L.set i { a with vx := ax, vy := ay, sp := asp })[k]? = some b) (hA : BdI a) (hB : BdI b)
  (c3 : w.cell? ⟨gr, og + 3, none⟩ = some (.int .i64 nx)) (c4 : w.cell? ⟨gr, og + 4, none⟩ = some (.int .i64 ny)) (c12 : w.cell? ⟨gr, og + 12, none⟩ = some (.int .i64 N)) (c13 : w.cell? ⟨gr, og + 13, none⟩ = some (.int .i64 T))
  (h1 : I64 rax) (h2 : I64 ray) (h3 : I64 rbx) (h4 : I64 rby) (h5 : I64 nx) (h6 : I64 ny) (h7 : I64 v1) (h8 : I64 s1) (h9 : I64 v2) (h10 : I64 s2) (h11 : I64 N) (h12 : I64 T)
  (e1 : Hid (mulF nx N = sx)) (e2 : Hid (mulF ny N = sy)) (e3 : Hid (negF ny = lx)) (e4 : Hid (mulF lx T = tx)) (e5 : Hid (mulF nx T = ty)) (e6 : Hid (addF sx tx = px)) (e7 : Hid (addF sy ty = py))
  (eu : Hid (mulF px v1 = ux)) (eu' : Hid (mulF py v1 = uy)) (ea : Hid (subF a.vx ux = ax)) (ea' : Hid (subF a.vy uy = ay))
  (ec : Hid (subF (mulF rax py) (mulF ray px) = cc)) (ed : Hid (mulF s1 cc = dd)) (es : Hid (subF a.sp dd = asp))
  (eq : Hid (mulF px v2 = qx)) (eq' : Hid (mulF py v2 = qy)) (eb : Hid (addF b.vx qx = bx)) (eb' : Hid (addF b.vy qy = by_))
  (ee_ : Hid (subF (mulF rbx py) (mulF rby px) = ee)) (ef : Hid (mulF s2 ee = ff)) (et : Hid (addF b.sp ff = bsp)) :
  Calls Tryz.prog 46 #[.agg #[.pointer (some ⟨gr, og, none⟩), .pointer (some ⟨g, i * 11, none⟩), .pointer (some ⟨g, k * 11, none⟩), .int .i64 m1, .int .i64 i1, .int .i64 v1, .int .i64 s1, .int .i64 m2, .int .i64 i2, .int .i64 v2, .int .i64 s2, .int .i64 rax, .int .i64 ray, .int .i64 rbx, .int .i64 rby]] w
   fun e v => e = .returned (.tuple #[]) ∧ But (fun x => x = g) w v ∧ RowL encB 11 v g t n ((L.set i { a with vx := ax, vy := ay, sp := asp }).set k { b with vx := bx, vy := by_, sp := bsp }) := by
 have j1 : I64 sx := by rw [← e1.out]; exact i64_mul _ _
 have j2 : I64 sy := by rw [← e2.out]; exact i64_mul _ _
 have j3 : I64 lx := by rw [← e3.out]; exact i64_neg h6
 have j4 : I64 tx := by rw [← e4.out]; exact i64_mul _ _
 have j5 : I64 ty := by rw [← e5.out]; exact i64_mul _ _
 have jp : I64 px := by rw [← e6.out]; exact i64_add _ _
 have jp' : I64 py := by rw [← e7.out]; exact i64_add _ _
 have lg := hL.here
 have lr := World.block_lt_of_cell? _ _ c3
 simp only at lr
 obtain ⟨oa, hoa⟩ : ∃ o, i * 11 = o := ⟨_, rfl⟩
 obtain ⟨ob, hob⟩ : ∃ o, k * 11 = o := ⟨_, rfl⟩
 have HAP := hid (fun (w2 : World) (k2 : Made w.heap.size w w2) => apply_c m1 i1 v1 s1 m2 i2 v2 s2 rax ray rbx rby px py ux uy ax ay cc dd asp qx qy bx by_ ee ff bsp w2 (hL.stays k2 lg) hi hk hA hB h1 h2 h3 h4 jp jp' h7 h8 h9 h10 eu eu' ea ea' ec ed es eq eq' eb eb' ee_ ef et)
 rw [hoa, hob] at HAP
 rw [hoa, hob]
 clear hoa hob hL hA hB hi hk
 go_enter Tryz.func46, Tryz.ntmps46
 go_upto_region 1 with fail
 refine reg_made_tail 26 (by kernel_rfl) (by kernel_rfl) ?_
 intro T' hT f hf
 have y0 := Class.reads hf (p := ⟨w.heap.size, 0, none⟩) (u := .pointer (some ⟨gr, og, none⟩)) (by go_simp)
 have y1 := Class.reads hf (p := ⟨w.heap.size, 1, none⟩) (u := .pointer (some ⟨g, oa, none⟩)) (by go_simp)
 have y2 := Class.reads hf (p := ⟨w.heap.size, 2, none⟩) (u := .pointer (some ⟨g, ob, none⟩)) (by go_simp)
 have y3 := Class.reads hf (p := ⟨w.heap.size, 3, none⟩) (u := .int .i64 m1) (by go_simp)
 have y4 := Class.reads hf (p := ⟨w.heap.size, 4, none⟩) (u := .int .i64 i1) (by go_simp)
 have y5 := Class.reads hf (p := ⟨w.heap.size, 5, none⟩) (u := .int .i64 v1) (by go_simp)
 have y6 := Class.reads hf (p := ⟨w.heap.size, 6, none⟩) (u := .int .i64 s1) (by go_simp)
 have y7 := Class.reads hf (p := ⟨w.heap.size, 7, none⟩) (u := .int .i64 m2) (by go_simp)
 have y8 := Class.reads hf (p := ⟨w.heap.size, 8, none⟩) (u := .int .i64 i2) (by go_simp)
 have y9 := Class.reads hf (p := ⟨w.heap.size, 9, none⟩) (u := .int .i64 v2) (by go_simp)
 have y10 := Class.reads hf (p := ⟨w.heap.size, 10, none⟩) (u := .int .i64 s2) (by go_simp)
 have y11 := Class.reads hf (p := ⟨w.heap.size, 11, none⟩) (u := .int .i64 rax) (by go_simp)
 have y12 := Class.reads hf (p := ⟨w.heap.size, 12, none⟩) (u := .int .i64 ray) (by go_simp)
 have y13 := Class.reads hf (p := ⟨w.heap.size, 13, none⟩) (u := .int .i64 rbx) (by go_simp)
 have y14 := Class.reads hf (p := ⟨w.heap.size, 14, none⟩) (u := .int .i64 rby) (by go_simp)
 have c3' := Class.reads hf (p := ⟨gr, og + 3, none⟩) (u := .int .i64 nx) (by go_simp)
 have c4' := Class.reads hf (p := ⟨gr, og + 4, none⟩) (u := .int .i64 ny) (by go_simp)
 have c12' := Class.reads hf (p := ⟨gr, og + 12, none⟩) (u := .int .i64 N) (by go_simp)
 have c13' := Class.reads hf (p := ⟨gr, og + 13, none⟩) (u := .int .i64 T) (by go_simp)
 simp only [List.take_succ_cons, List.take_zero, List.drop_succ_cons, List.drop_zero]
 repeat (go_big_quiet_step ((first
  | (go_at_call 85; with_reducible exact hf.made (vscale_is nx ny N sx sy _ h5 h6 h11 e1.out e2.out))
  | (go_at_call 85; with_reducible exact hf.made (vscale_is lx nx T tx ty _ j3 h5 h12 e4.out e5.out))
  | (go_at_call 81; with_reducible exact hf.made (vleft_is nx ny lx _ h5 h6 e3.out))
  | (go_at_call 10; with_reducible exact hf.made (vadd_is sx sy tx ty px py _ j1 j2 j4 j5 e6.out e7.out)))))
 refine wpQuiet_nil ?_
 intro w2 g2
 have hb := hf.here g2
 have K2 := hid (made_box hb)
 have HQ := hid (HAP.out w2 K2.out)
 clear HAP hb hf g2
 go_wp2_with fail
 refine HQ.out.mono ?_
 rintro e v ⟨rfl, kb, kl⟩
 have KB := hid kb
 have KL := hid kl
 clear kb kl HQ
 go_wp2_with fail
 exact bodyPost_end (results_none rfl _ _ _) rfl ⟨rfl, K2.out.but.then_ KB.out, KL.out⟩
end Go.Proofs.YtjhcejmfiekjgaaGreat.Fx
/- Package solve: a row pushes along its normal. -/
namespace Go.Proofs.YtjhcejmfiekjgaaGreat.Fx
open Go.ChangeShapes Go.WideShapes Go.ChangeAt Go.RowKit
set_option linter.unusedVariables false
theorem push_c {t : TypeId} {g n i k gr og : Nat} {L : List Bd} {a b0 b : Bd} (nx ny GN Out N : Int) (m1 i1 v1 s1 m2 i2 v2 s2 rax ray rbx rby : Int)
  (spx spy sax say sqx sqy sbx sby sdx sdy r : Int) (z1 z2 z3 nN dn px py : Int) (ux uy ax ay cc dd asp qx qy bx by_ ee ff bsp : Int) (w : World) (hgr : gr ≠ g)
  (hL : RowL encB 11 w g t n L) (hi : L[i]? = some a) (hk0 : L[k]? = some b0) (hk : (L.set i { a with vx := ax, vy := ay, sp := asp })[k]? = some b) (hA : BdI a) (hB0 : BdI b0) (hB : BdI b)
  (c3 : w.cell? ⟨gr, og + 3, none⟩ = some (.int .i64 nx)) (c4 : w.cell? ⟨gr, og + 4, none⟩ = some (.int .i64 ny)) (c9 : w.cell? ⟨gr, og + 9, none⟩ = some (.int .i64 GN)) (c11 : w.cell? ⟨gr, og + 11, none⟩ = some (.int .i64 Out)) (c12 : w.cell? ⟨gr, og + 12, none⟩ = some (.int .i64 N)) (hfr : w.frozen? ⟨gr, og + 12, none⟩ = false)
  (h1 : I64 rax) (h2 : I64 ray) (h3 : I64 rbx) (h4 : I64 rby) (h5 : I64 nx) (h6 : I64 ny) (h7 : I64 v1) (h8 : I64 s1) (h9 : I64 v2) (h10 : I64 s2) (h11 : I64 GN) (h12 : I64 Out) (h13 : I64 N)
  (ep : Hid (mulF (negF ray) a.sp = spx)) (ep' : Hid (mulF rax a.sp = spy)) (ea0 : Hid (addF a.vx spx = sax)) (ea0' : Hid (addF a.vy spy = say))
  (eq0 : Hid (mulF (negF rby) b0.sp = sqx)) (eq0' : Hid (mulF rbx b0.sp = sqy)) (eb0 : Hid (addF b0.vx sqx = sbx)) (eb0' : Hid (addF b0.vy sqy = sby))
  (ed0 : Hid (subF sbx sax = sdx)) (ed0' : Hid (subF sby say = sdy)) (er : Hid (addF (mulF sdx nx) (mulF sdy ny) = r))
  (e1 : Hid (subF Out r = z1)) (e2 : Hid (mulF GN z1 = z2)) (e3 : Hid (addF N z2 = z3)) (e4 : max 0 z3 = nN) (e5 : Hid (subF nN N = dn)) (e6 : Hid (mulF nx dn = px)) (e7 : Hid (mulF ny dn = py))
  (eu : Hid (mulF px v1 = ux)) (eu' : Hid (mulF py v1 = uy)) (ea : Hid (subF a.vx ux = ax)) (ea' : Hid (subF a.vy uy = ay))
  (ec : Hid (subF (mulF rax py) (mulF ray px) = cc)) (ed : Hid (mulF s1 cc = dd)) (es : Hid (subF a.sp dd = asp))
  (eq : Hid (mulF px v2 = qx)) (eq' : Hid (mulF py v2 = qy)) (eb : Hid (addF b.vx qx = bx)) (eb' : Hid (addF b.vy qy = by_))
  (ee_ : Hid (subF (mulF rbx py) (mulF rby px) = ee)) (ef : Hid (mulF s2 ee = ff)) (et : Hid (addF b.sp ff = bsp)) :
  Calls Tryz.prog 49 #[.agg #[.pointer (some ⟨gr, og, none⟩), .pointer (some ⟨g, i * 11, none⟩), .pointer (some ⟨g, k * 11, none⟩), .int .i64 m1, .int .i64 i1, .int .i64 v1, .int .i64 s1, .int .i64 m2, .int .i64 i2, .int .i64 v2, .int .i64 s2, .int .i64 rax, .int .i64 ray, .int .i64 rbx, .int .i64 rby]] w
   fun e v => e = .returned (.tuple #[]) ∧ ∃ u, v = u.setCell ⟨gr, og + 12, none⟩ (.int .i64 nN) ∧ But (fun x => x = g) w u ∧ RowL encB 11 u g t n ((L.set i { a with vx := ax, vy := ay, sp := asp }).set k { b with vx := bx, vy := by_, sp := bsp }) := by
 have jr : I64 r := by rw [← er.out]; exact i64_add _ _
 have j1 : I64 z1 := by rw [← e1.out]; exact i64_sub _ _
 have j2 : I64 z2 := by rw [← e2.out]; exact i64_mul _ _
 have j3 : I64 z3 := by rw [← e3.out]; exact i64_add _ _
 have j4 : I64 nN := by rw [← e4]; unfold I64 at *; omega
 have j5 : I64 dn := by rw [← e5.out]; exact i64_sub _ _
 have jp : I64 px := by rw [← e6.out]; exact i64_mul _ _
 have jp' : I64 py := by rw [← e7.out]; exact i64_mul _ _
 have lg := hL.here
 have lr := World.block_lt_of_cell? _ _ c3
 simp only at lr
 have k0 := hA.vx
 have k1 := hA.vy
 have k2 := hA.sp
 have k3 := hB0.vx
 have k4 := hB0.vy
 have k5 := hB0.sp
 obtain ⟨oa, hoa⟩ : ∃ o, i * 11 = o := ⟨_, rfl⟩
 obtain ⟨ob, hob⟩ : ∃ o, k * 11 = o := ⟨_, rfl⟩
 have b3 : w.cell? ⟨g, oa + 3, none⟩ = some (.int .i64 a.vx) := by rw [← hoa]; exact hL.at1 encB_len hi rfl
 have b4 : w.cell? ⟨g, oa + 4, none⟩ = some (.int .i64 a.vy) := by rw [← hoa]; exact hL.at1 encB_len hi rfl
 have b6 : w.cell? ⟨g, oa + 6, none⟩ = some (.int .i64 a.sp) := by rw [← hoa]; exact hL.at1 encB_len hi rfl
 have d3 : w.cell? ⟨g, ob + 3, none⟩ = some (.int .i64 b0.vx) := by rw [← hob]; exact hL.at1 encB_len hk0 rfl
 have d4 : w.cell? ⟨g, ob + 4, none⟩ = some (.int .i64 b0.vy) := by rw [← hob]; exact hL.at1 encB_len hk0 rfl
 have d6 : w.cell? ⟨g, ob + 6, none⟩ = some (.int .i64 b0.sp) := by rw [← hob]; exact hL.at1 encB_len hk0 rfl
 have HAP := hid (fun (w2 : World) (k2 : Made w.heap.size w w2) => apply_c m1 i1 v1 s1 m2 i2 v2 s2 rax ray rbx rby px py ux uy ax ay cc dd asp qx qy bx by_ ee ff bsp w2 (hL.stays k2 lg) hi hk hA hB h1 h2 h3 h4 jp jp' h7 h8 h9 h10 eu eu' ea ea' ec ed es eq eq' eb eb' ee_ ef et)
 rw [hoa, hob] at HAP
 rw [hoa, hob]
 clear hoa hob hL hA hB hB0 hi hk hk0
 go_enter Tryz.func49, Tryz.ntmps49
 go_upto_region 1 with fail
 refine reg_made (by kernel_rfl) (by kernel_rfl) ?_
 intro T' hT f hf
 have y0 := Class.reads hf (p := ⟨w.heap.size, 0, none⟩) (u := .pointer (some ⟨gr, og, none⟩)) (by go_simp)
 have y1 := Class.reads hf (p := ⟨w.heap.size, 1, none⟩) (u := .pointer (some ⟨g, oa, none⟩)) (by go_simp)
 have y2 := Class.reads hf (p := ⟨w.heap.size, 2, none⟩) (u := .pointer (some ⟨g, ob, none⟩)) (by go_simp)
 have y3 := Class.reads hf (p := ⟨w.heap.size, 3, none⟩) (u := .int .i64 m1) (by go_simp)
 have y4 := Class.reads hf (p := ⟨w.heap.size, 4, none⟩) (u := .int .i64 i1) (by go_simp)
 have y5 := Class.reads hf (p := ⟨w.heap.size, 5, none⟩) (u := .int .i64 v1) (by go_simp)
 have y6 := Class.reads hf (p := ⟨w.heap.size, 6, none⟩) (u := .int .i64 s1) (by go_simp)
 have y7 := Class.reads hf (p := ⟨w.heap.size, 7, none⟩) (u := .int .i64 m2) (by go_simp)
 have y8 := Class.reads hf (p := ⟨w.heap.size, 8, none⟩) (u := .int .i64 i2) (by go_simp)
 have y9 := Class.reads hf (p := ⟨w.heap.size, 9, none⟩) (u := .int .i64 v2) (by go_simp)
 have y10 := Class.reads hf (p := ⟨w.heap.size, 10, none⟩) (u := .int .i64 s2) (by go_simp)
 have y11 := Class.reads hf (p := ⟨w.heap.size, 11, none⟩) (u := .int .i64 rax) (by go_simp)
 have y12 := Class.reads hf (p := ⟨w.heap.size, 12, none⟩) (u := .int .i64 ray) (by go_simp)
 have y13 := Class.reads hf (p := ⟨w.heap.size, 13, none⟩) (u := .int .i64 rbx) (by go_simp)
 have y14 := Class.reads hf (p := ⟨w.heap.size, 14, none⟩) (u := .int .i64 rby) (by go_simp)
 have c3' := Class.reads hf (p := ⟨gr, og + 3, none⟩) (u := .int .i64 nx) (by go_simp)
 have c4' := Class.reads hf (p := ⟨gr, og + 4, none⟩) (u := .int .i64 ny) (by go_simp)
 have c9' := Class.reads hf (p := ⟨gr, og + 9, none⟩) (u := .int .i64 GN) (by go_simp)
 have c11' := Class.reads hf (p := ⟨gr, og + 11, none⟩) (u := .int .i64 Out) (by go_simp)
 have c12' := Class.reads hf (p := ⟨gr, og + 12, none⟩) (u := .int .i64 N) (by go_simp)
 have b3' := Class.reads hf (p := ⟨g, oa + 3, none⟩) (u := .int .i64 a.vx) (by go_simp)
 have b4' := Class.reads hf (p := ⟨g, oa + 4, none⟩) (u := .int .i64 a.vy) (by go_simp)
 have b6' := Class.reads hf (p := ⟨g, oa + 6, none⟩) (u := .int .i64 a.sp) (by go_simp)
 have d3' := Class.reads hf (p := ⟨g, ob + 3, none⟩) (u := .int .i64 b0.vx) (by go_simp)
 have d4' := Class.reads hf (p := ⟨g, ob + 4, none⟩) (u := .int .i64 b0.vy) (by go_simp)
 have d6' := Class.reads hf (p := ⟨g, ob + 6, none⟩) (u := .int .i64 b0.sp) (by go_simp)
 repeat (go_big_quiet_step ((first
  | (go_at_call 86; exact hf.made (speed_c g oa g ob m1 i1 v1 s1 m2 i2 v2 s2 rax ray rbx rby nx ny a.vx a.vy a.sp b0.vx b0.vy b0.sp spx spy sax say sqx sqy sbx sby sdx sdy r _ h1 h2 h3 h4 h5 h6 k0 k1 k2 k3 k4 k5 (b3' _) (b4' _) (b6' _) (d3' _) (d4' _) (d6' _) ep ep' ea0 ea0' eq0 eq0' eb0 eb0' ed0 ed0' er))
  | (go_at_call 14; with_reducible exact hf.same (sub_is Out r z1 _ h12 jr e1.out))
  | (go_at_call 12; with_reducible exact hf.same (mul_is GN z1 z2 _ h11 j1 e2.out))
  | (go_at_call 26; with_reducible exact hf.same (add_is N z2 z3 _ h13 j2 e3.out)))))
 refine wpQuiet_nil ?_
 intro w1 g1
 have hb := hf.here g1
 have x0 := hb.reads (p := ⟨w.heap.size, 0, none⟩) (x := .pointer (some ⟨gr, og, none⟩)) (by go_simp)
 have x1 := hb.reads (p := ⟨w.heap.size, 1, none⟩) (x := .pointer (some ⟨g, oa, none⟩)) (by go_simp)
 have x2 := hb.reads (p := ⟨w.heap.size, 2, none⟩) (x := .pointer (some ⟨g, ob, none⟩)) (by go_simp)
 have x3 := hb.reads (p := ⟨w.heap.size, 3, none⟩) (x := .int .i64 m1) (by go_simp)
 have x4 := hb.reads (p := ⟨w.heap.size, 4, none⟩) (x := .int .i64 i1) (by go_simp)
 have x5 := hb.reads (p := ⟨w.heap.size, 5, none⟩) (x := .int .i64 v1) (by go_simp)
 have x6 := hb.reads (p := ⟨w.heap.size, 6, none⟩) (x := .int .i64 s1) (by go_simp)
 have x7 := hb.reads (p := ⟨w.heap.size, 7, none⟩) (x := .int .i64 m2) (by go_simp)
 have x8 := hb.reads (p := ⟨w.heap.size, 8, none⟩) (x := .int .i64 i2) (by go_simp)
 have x9 := hb.reads (p := ⟨w.heap.size, 9, none⟩) (x := .int .i64 v2) (by go_simp)
 have x10 := hb.reads (p := ⟨w.heap.size, 10, none⟩) (x := .int .i64 s2) (by go_simp)
 have x11 := hb.reads (p := ⟨w.heap.size, 11, none⟩) (x := .int .i64 rax) (by go_simp)
 have x12 := hb.reads (p := ⟨w.heap.size, 12, none⟩) (x := .int .i64 ray) (by go_simp)
 have x13 := hb.reads (p := ⟨w.heap.size, 13, none⟩) (x := .int .i64 rbx) (by go_simp)
 have x14 := hb.reads (p := ⟨w.heap.size, 14, none⟩) (x := .int .i64 rby) (by go_simp)
 have r3 := hb.reads (p := ⟨gr, og + 3, none⟩) (x := .int .i64 nx) (by go_simp)
 have r4 := hb.reads (p := ⟨gr, og + 4, none⟩) (x := .int .i64 ny) (by go_simp)
 have r12 := hb.reads (p := ⟨gr, og + 12, none⟩) (x := .int .i64 N) (by go_simp)
 have KM := hid (made_box hb)
 have f12 : w1.frozen? ⟨gr, og + 12, none⟩ = false := (KM.out.2 _).trans hfr
 clear hb hf g1 y0 y1 y2 y3 y4 y5 y6 y7 y8 y9 y10 y11 y12 y13 y14 c3' c4' c9' c11' c12' b3 b3' b4 b4' b6 b6' d3 d3' d4 d4' d6 d6' c3 c4 c9 c11 c12
 go_upto_region 2 with fail
 try simp only [e4]
 refine reg_made_tail 15 (by kernel_rfl) (by kernel_rfl) ?_
 intro T' hT f hf
 have y0 := Class.reads hf x0
 have y1 := Class.reads hf x1
 have y2 := Class.reads hf x2
 have y3 := Class.reads hf x3
 have y4 := Class.reads hf x4
 have y5 := Class.reads hf x5
 have y6 := Class.reads hf x6
 have y7 := Class.reads hf x7
 have y8 := Class.reads hf x8
 have y9 := Class.reads hf x9
 have y10 := Class.reads hf x10
 have y11 := Class.reads hf x11
 have y12 := Class.reads hf x12
 have y13 := Class.reads hf x13
 have y14 := Class.reads hf x14
 have c3 := Class.reads hf r3
 have c4 := Class.reads hf r4
 have c12 := Class.reads hf r12
 simp only [List.take_succ_cons, List.take_zero, List.drop_succ_cons, List.drop_zero]
 repeat (go_big_quiet_step ((first
  | (go_at_call 14; with_reducible exact hf.same (sub_is nN N dn _ j4 h13 e5.out))
  | (go_at_call 85; with_reducible exact hf.made (vscale_is nx ny dn px py _ h5 h6 j5 e6.out e7.out)))))
 refine wpQuiet_nil ?_
 intro w2 g2
 have hb := hf.here g2
 have x0 := hb.reads x0
 have r12 := hb.reads r12
 have f12 : w2.frozen? ⟨gr, og + 12, none⟩ = false := (hb.2 _).trans f12
 have K2 := hid (KM.out.then_ (hb.low KM.out.1.size))
 have HQ := hid (HAP.out w2 K2.out)
 clear HAP hb hf g2 y0 y1 y2 y3 y4 y5 y6 y7 y8 y9 y10 y11 y12 y13 y14 c3 c4 c12 x1 x2 x3 x4 x5 x6 x7 x8 x9 x10 x11 x12 x13 x14 r3 r4 KM
 go_wp2_with fail
 refine HQ.out.mono ?_
 rintro e v ⟨rfl, kb, kl⟩
 have x0 := kb.cell x0 (by simp; omega)
 have r12 := kb.cell r12 (by simpa using hgr)
 have f12 : v.frozen? ⟨gr, og + 12, none⟩ = false := (kb.marks _).trans f12
 have KB := hid kb
 have KL := hid kl
 clear kb kl HQ
 go_wp2_with fail
 exact bodyPost_end (results_none rfl _ _ _) rfl ⟨rfl, v, rfl, K2.out.but.then_ KB.out, KL.out⟩
end Go.Proofs.YtjhcejmfiekjgaaGreat.Fx
/- Package solve: a row rubs across its normal. -/
namespace Go.Proofs.YtjhcejmfiekjgaaGreat.Fx
open Go.ChangeShapes Go.WideShapes Go.ChangeAt Go.RowKit
set_option linter.unusedVariables false
theorem rub_c {t : TypeId} {g n i k gr og : Nat} {L : List Bd} {a b0 b : Bd} (nx ny GT N T : Int) (m1 i1 v1 s1 m2 i2 v2 s2 rax ray rbx rby : Int)
  (spx spy sax say sqx sqy sbx sby sdx sdy r : Int) (lx mo z1 z2 z3 mn nT dn px py : Int) (ux uy ax ay cc dd asp qx qy bx by_ ee ff bsp : Int) (w : World) (hgr : gr ≠ g)
  (hL : RowL encB 11 w g t n L) (hi : L[i]? = some a) (hk0 : L[k]? = some b0) (hk : (L.set i { a with vx := ax, vy := ay, sp := asp })[k]? = some b) (hA : BdI a) (hB0 : BdI b0) (hB : BdI b)
  (c3 : w.cell? ⟨gr, og + 3, none⟩ = some (.int .i64 nx)) (c4 : w.cell? ⟨gr, og + 4, none⟩ = some (.int .i64 ny)) (c10 : w.cell? ⟨gr, og + 10, none⟩ = some (.int .i64 GT)) (c12 : w.cell? ⟨gr, og + 12, none⟩ = some (.int .i64 N)) (c13 : w.cell? ⟨gr, og + 13, none⟩ = some (.int .i64 T)) (hfr : w.frozen? ⟨gr, og + 13, none⟩ = false)
  (h1 : I64 rax) (h2 : I64 ray) (h3 : I64 rbx) (h4 : I64 rby) (h5 : I64 nx) (h6 : I64 ny) (h7 : I64 v1) (h8 : I64 s1) (h9 : I64 v2) (h10 : I64 s2) (h11 : I64 GT) (h12 : I64 N) (h13 : I64 T)
  (ep : Hid (mulF (negF ray) a.sp = spx)) (ep' : Hid (mulF rax a.sp = spy)) (ea0 : Hid (addF a.vx spx = sax)) (ea0' : Hid (addF a.vy spy = say))
  (eq0 : Hid (mulF (negF rby) b0.sp = sqx)) (eq0' : Hid (mulF rbx b0.sp = sqy)) (eb0 : Hid (addF b0.vx sqx = sbx)) (eb0' : Hid (addF b0.vy sqy = sby))
  (ed0 : Hid (subF sbx sax = sdx)) (ed0' : Hid (subF sby say = sdy)) (el : Hid (negF ny = lx)) (eo : Hid (mulF N 2147483648 = mo)) (er : Hid (addF (mulF sdx lx) (mulF sdy nx) = r))
  (e1 : Hid (mulF GT r = z1)) (e2 : Hid (negF z1 = z2)) (e3 : Hid (addF T z2 = z3)) (en : Hid (negF mo = mn)) (e4 : Hid (bringF z3 mn mo = nT)) (e5 : Hid (subF nT T = dn)) (e6 : Hid (mulF lx dn = px)) (e7 : Hid (mulF nx dn = py))
  (eu : Hid (mulF px v1 = ux)) (eu' : Hid (mulF py v1 = uy)) (ea : Hid (subF a.vx ux = ax)) (ea' : Hid (subF a.vy uy = ay))
  (ec : Hid (subF (mulF rax py) (mulF ray px) = cc)) (ed : Hid (mulF s1 cc = dd)) (es : Hid (subF a.sp dd = asp))
  (eq : Hid (mulF px v2 = qx)) (eq' : Hid (mulF py v2 = qy)) (eb : Hid (addF b.vx qx = bx)) (eb' : Hid (addF b.vy qy = by_))
  (ee_ : Hid (subF (mulF rbx py) (mulF rby px) = ee)) (ef : Hid (mulF s2 ee = ff)) (et : Hid (addF b.sp ff = bsp)) :
  Calls Tryz.prog 48 #[.agg #[.pointer (some ⟨gr, og, none⟩), .pointer (some ⟨g, i * 11, none⟩), .pointer (some ⟨g, k * 11, none⟩), .int .i64 m1, .int .i64 i1, .int .i64 v1, .int .i64 s1, .int .i64 m2, .int .i64 i2, .int .i64 v2, .int .i64 s2, .int .i64 rax, .int .i64 ray, .int .i64 rbx, .int .i64 rby]] w
   fun e v => e = .returned (.tuple #[]) ∧ ∃ u, v = u.setCell ⟨gr, og + 13, none⟩ (.int .i64 nT) ∧ But (fun x => x = g) w u ∧ RowL encB 11 u g t n ((L.set i { a with vx := ax, vy := ay, sp := asp }).set k { b with vx := bx, vy := by_, sp := bsp }) := by
 have jr : I64 r := by rw [← er.out]; exact i64_add _ _
 have jl : I64 lx := by rw [← el.out]; exact i64_neg h6
 have jo : I64 mo := by rw [← eo.out]; exact i64_mul _ _
 have jn : I64 mn := by rw [← en.out]; exact i64_neg jo
 have j1 : I64 z1 := by rw [← e1.out]; exact i64_mul _ _
 have j2 : I64 z2 := by rw [← e2.out]; exact i64_neg j1
 have j3 : I64 z3 := by rw [← e3.out]; exact i64_add _ _
 have j4 : I64 nT := by rw [← e4.out]; exact i64_bring j3 jn jo
 have jh : I64 2147483648 := by unfold I64; omega
 have j5 : I64 dn := by rw [← e5.out]; exact i64_sub _ _
 have jp : I64 px := by rw [← e6.out]; exact i64_mul _ _
 have jp' : I64 py := by rw [← e7.out]; exact i64_mul _ _
 have lg := hL.here
 have lr := World.block_lt_of_cell? _ _ c3
 simp only at lr
 have k0 := hA.vx
 have k1 := hA.vy
 have k2 := hA.sp
 have k3 := hB0.vx
 have k4 := hB0.vy
 have k5 := hB0.sp
 obtain ⟨oa, hoa⟩ : ∃ o, i * 11 = o := ⟨_, rfl⟩
 obtain ⟨ob, hob⟩ : ∃ o, k * 11 = o := ⟨_, rfl⟩
 have b3 : w.cell? ⟨g, oa + 3, none⟩ = some (.int .i64 a.vx) := by rw [← hoa]; exact hL.at1 encB_len hi rfl
 have b4 : w.cell? ⟨g, oa + 4, none⟩ = some (.int .i64 a.vy) := by rw [← hoa]; exact hL.at1 encB_len hi rfl
 have b6 : w.cell? ⟨g, oa + 6, none⟩ = some (.int .i64 a.sp) := by rw [← hoa]; exact hL.at1 encB_len hi rfl
 have d3 : w.cell? ⟨g, ob + 3, none⟩ = some (.int .i64 b0.vx) := by rw [← hob]; exact hL.at1 encB_len hk0 rfl
 have d4 : w.cell? ⟨g, ob + 4, none⟩ = some (.int .i64 b0.vy) := by rw [← hob]; exact hL.at1 encB_len hk0 rfl
 have d6 : w.cell? ⟨g, ob + 6, none⟩ = some (.int .i64 b0.sp) := by rw [← hob]; exact hL.at1 encB_len hk0 rfl
 have HAP := hid (fun (w2 : World) (k2 : Made w.heap.size w w2) => apply_c m1 i1 v1 s1 m2 i2 v2 s2 rax ray rbx rby px py ux uy ax ay cc dd asp qx qy bx by_ ee ff bsp w2 (hL.stays k2 lg) hi hk hA hB h1 h2 h3 h4 jp jp' h7 h8 h9 h10 eu eu' ea ea' ec ed es eq eq' eb eb' ee_ ef et)
 rw [hoa, hob] at HAP
 rw [hoa, hob]
 clear hoa hob hL hA hB hB0 hi hk hk0
 go_enter Tryz.func48, Tryz.ntmps48
 go_wp2_with fail
 refine (vleft_is nx ny lx _ h5 h6 el.out).mono ?_
 rintro e w1 ⟨rfl, k1⟩
 have y0 : w1.cell? ⟨w.heap.size, 0, none⟩ = some (.pointer (some ⟨gr, og, none⟩)) := k1.reads (p := ⟨w.heap.size, 0, none⟩) (x := .pointer (some ⟨gr, og, none⟩)) (by go_simp)
 have y1 : w1.cell? ⟨w.heap.size, 1, none⟩ = some (.pointer (some ⟨g, oa, none⟩)) := k1.reads (p := ⟨w.heap.size, 1, none⟩) (x := .pointer (some ⟨g, oa, none⟩)) (by go_simp)
 have y2 : w1.cell? ⟨w.heap.size, 2, none⟩ = some (.pointer (some ⟨g, ob, none⟩)) := k1.reads (p := ⟨w.heap.size, 2, none⟩) (x := .pointer (some ⟨g, ob, none⟩)) (by go_simp)
 have y3 : w1.cell? ⟨w.heap.size, 3, none⟩ = some (.int .i64 m1) := k1.reads (p := ⟨w.heap.size, 3, none⟩) (x := .int .i64 m1) (by go_simp)
 have y4 : w1.cell? ⟨w.heap.size, 4, none⟩ = some (.int .i64 i1) := k1.reads (p := ⟨w.heap.size, 4, none⟩) (x := .int .i64 i1) (by go_simp)
 have y5 : w1.cell? ⟨w.heap.size, 5, none⟩ = some (.int .i64 v1) := k1.reads (p := ⟨w.heap.size, 5, none⟩) (x := .int .i64 v1) (by go_simp)
 have y6 : w1.cell? ⟨w.heap.size, 6, none⟩ = some (.int .i64 s1) := k1.reads (p := ⟨w.heap.size, 6, none⟩) (x := .int .i64 s1) (by go_simp)
 have y7 : w1.cell? ⟨w.heap.size, 7, none⟩ = some (.int .i64 m2) := k1.reads (p := ⟨w.heap.size, 7, none⟩) (x := .int .i64 m2) (by go_simp)
 have y8 : w1.cell? ⟨w.heap.size, 8, none⟩ = some (.int .i64 i2) := k1.reads (p := ⟨w.heap.size, 8, none⟩) (x := .int .i64 i2) (by go_simp)
 have y9 : w1.cell? ⟨w.heap.size, 9, none⟩ = some (.int .i64 v2) := k1.reads (p := ⟨w.heap.size, 9, none⟩) (x := .int .i64 v2) (by go_simp)
 have y10 : w1.cell? ⟨w.heap.size, 10, none⟩ = some (.int .i64 s2) := k1.reads (p := ⟨w.heap.size, 10, none⟩) (x := .int .i64 s2) (by go_simp)
 have y11 : w1.cell? ⟨w.heap.size, 11, none⟩ = some (.int .i64 rax) := k1.reads (p := ⟨w.heap.size, 11, none⟩) (x := .int .i64 rax) (by go_simp)
 have y12 : w1.cell? ⟨w.heap.size, 12, none⟩ = some (.int .i64 ray) := k1.reads (p := ⟨w.heap.size, 12, none⟩) (x := .int .i64 ray) (by go_simp)
 have y13 : w1.cell? ⟨w.heap.size, 13, none⟩ = some (.int .i64 rbx) := k1.reads (p := ⟨w.heap.size, 13, none⟩) (x := .int .i64 rbx) (by go_simp)
 have y14 : w1.cell? ⟨w.heap.size, 14, none⟩ = some (.int .i64 rby) := k1.reads (p := ⟨w.heap.size, 14, none⟩) (x := .int .i64 rby) (by go_simp)
 have c10 : w1.cell? ⟨gr, og + 10, none⟩ = some (.int .i64 GT) := k1.reads (p := ⟨gr, og + 10, none⟩) (x := .int .i64 GT) (by go_simp)
 have c12 : w1.cell? ⟨gr, og + 12, none⟩ = some (.int .i64 N) := k1.reads (p := ⟨gr, og + 12, none⟩) (x := .int .i64 N) (by go_simp)
 have c13 : w1.cell? ⟨gr, og + 13, none⟩ = some (.int .i64 T) := k1.reads (p := ⟨gr, og + 13, none⟩) (x := .int .i64 T) (by go_simp)
 have b3 : w1.cell? ⟨g, oa + 3, none⟩ = some (.int .i64 a.vx) := k1.reads (p := ⟨g, oa + 3, none⟩) (x := .int .i64 a.vx) (by go_simp)
 have b4 : w1.cell? ⟨g, oa + 4, none⟩ = some (.int .i64 a.vy) := k1.reads (p := ⟨g, oa + 4, none⟩) (x := .int .i64 a.vy) (by go_simp)
 have b6 : w1.cell? ⟨g, oa + 6, none⟩ = some (.int .i64 a.sp) := k1.reads (p := ⟨g, oa + 6, none⟩) (x := .int .i64 a.sp) (by go_simp)
 have d3 : w1.cell? ⟨g, ob + 3, none⟩ = some (.int .i64 b0.vx) := k1.reads (p := ⟨g, ob + 3, none⟩) (x := .int .i64 b0.vx) (by go_simp)
 have d4 : w1.cell? ⟨g, ob + 4, none⟩ = some (.int .i64 b0.vy) := k1.reads (p := ⟨g, ob + 4, none⟩) (x := .int .i64 b0.vy) (by go_simp)
 have d6 : w1.cell? ⟨g, ob + 6, none⟩ = some (.int .i64 b0.sp) := k1.reads (p := ⟨g, ob + 6, none⟩) (x := .int .i64 b0.sp) (by go_simp)
 have KM := hid (made_box k1)
 have f13 : w1.frozen? ⟨gr, og + 13, none⟩ = false := (KM.out.2 _).trans hfr
 clear k1 c3 c4
 go_upto_region 2 with fail
 obtain ⟨W, eW⟩ : ∃ W, W = w1.alloc (.cells #[.int .i64 lx, .int .i64 nx] 26) := ⟨_, rfl⟩
 have l0 : W.cell? ⟨w1.heap.size, 0, none⟩ = some (.int .i64 lx) := by rw [eW]; exact (has_new w1 _ _).at_ 0
 have l1 : W.cell? ⟨w1.heap.size, 1, none⟩ = some (.int .i64 nx) := by rw [eW]; exact (has_new w1 _ _).at_ 1
 have y0 : W.cell? ⟨w.heap.size, 0, none⟩ = some (.pointer (some ⟨gr, og, none⟩)) := by rw [eW]; exact cell_more y0
 have y1 : W.cell? ⟨w.heap.size, 1, none⟩ = some (.pointer (some ⟨g, oa, none⟩)) := by rw [eW]; exact cell_more y1
 have y2 : W.cell? ⟨w.heap.size, 2, none⟩ = some (.pointer (some ⟨g, ob, none⟩)) := by rw [eW]; exact cell_more y2
 have y3 : W.cell? ⟨w.heap.size, 3, none⟩ = some (.int .i64 m1) := by rw [eW]; exact cell_more y3
 have y4 : W.cell? ⟨w.heap.size, 4, none⟩ = some (.int .i64 i1) := by rw [eW]; exact cell_more y4
 have y5 : W.cell? ⟨w.heap.size, 5, none⟩ = some (.int .i64 v1) := by rw [eW]; exact cell_more y5
 have y6 : W.cell? ⟨w.heap.size, 6, none⟩ = some (.int .i64 s1) := by rw [eW]; exact cell_more y6
 have y7 : W.cell? ⟨w.heap.size, 7, none⟩ = some (.int .i64 m2) := by rw [eW]; exact cell_more y7
 have y8 : W.cell? ⟨w.heap.size, 8, none⟩ = some (.int .i64 i2) := by rw [eW]; exact cell_more y8
 have y9 : W.cell? ⟨w.heap.size, 9, none⟩ = some (.int .i64 v2) := by rw [eW]; exact cell_more y9
 have y10 : W.cell? ⟨w.heap.size, 10, none⟩ = some (.int .i64 s2) := by rw [eW]; exact cell_more y10
 have y11 : W.cell? ⟨w.heap.size, 11, none⟩ = some (.int .i64 rax) := by rw [eW]; exact cell_more y11
 have y12 : W.cell? ⟨w.heap.size, 12, none⟩ = some (.int .i64 ray) := by rw [eW]; exact cell_more y12
 have y13 : W.cell? ⟨w.heap.size, 13, none⟩ = some (.int .i64 rbx) := by rw [eW]; exact cell_more y13
 have y14 : W.cell? ⟨w.heap.size, 14, none⟩ = some (.int .i64 rby) := by rw [eW]; exact cell_more y14
 have c10 : W.cell? ⟨gr, og + 10, none⟩ = some (.int .i64 GT) := by rw [eW]; exact cell_more c10
 have c12 : W.cell? ⟨gr, og + 12, none⟩ = some (.int .i64 N) := by rw [eW]; exact cell_more c12
 have c13 : W.cell? ⟨gr, og + 13, none⟩ = some (.int .i64 T) := by rw [eW]; exact cell_more c13
 have b3 : W.cell? ⟨g, oa + 3, none⟩ = some (.int .i64 a.vx) := by rw [eW]; exact cell_more b3
 have b4 : W.cell? ⟨g, oa + 4, none⟩ = some (.int .i64 a.vy) := by rw [eW]; exact cell_more b4
 have b6 : W.cell? ⟨g, oa + 6, none⟩ = some (.int .i64 a.sp) := by rw [eW]; exact cell_more b6
 have d3 : W.cell? ⟨g, ob + 3, none⟩ = some (.int .i64 b0.vx) := by rw [eW]; exact cell_more d3
 have d4 : W.cell? ⟨g, ob + 4, none⟩ = some (.int .i64 b0.vy) := by rw [eW]; exact cell_more d4
 have d6 : W.cell? ⟨g, ob + 6, none⟩ = some (.int .i64 b0.sp) := by rw [eW]; exact cell_more d6
 have MW : Hid (Made w.heap.size w W) := by unfold Hid; rw [eW]; exact KM.out.cells KM.out.1.size _ _
 have f13 : W.frozen? ⟨gr, og + 13, none⟩ = false := (MW.out.2 _).trans hfr
 rw [← eW]
 obtain ⟨gl, egl⟩ : ∃ q, w1.heap.size = q := ⟨_, rfl⟩
 rw [egl] at l0 l1 ⊢
 clear eW egl KM
 go_wp2_with fail
 refine (mul_is N 2147483648 mo _ h12 jh eo.out).mono ?_
 rintro e w' ⟨rfl, rfl⟩
 go_upto_region 3 with fail
 refine reg_made (by kernel_rfl) (by kernel_rfl) ?_
 intro T' hT f hf
 have y0' := Class.reads hf y0
 have y1' := Class.reads hf y1
 have y2' := Class.reads hf y2
 have y3' := Class.reads hf y3
 have y4' := Class.reads hf y4
 have y5' := Class.reads hf y5
 have y6' := Class.reads hf y6
 have y7' := Class.reads hf y7
 have y8' := Class.reads hf y8
 have y9' := Class.reads hf y9
 have y10' := Class.reads hf y10
 have y11' := Class.reads hf y11
 have y12' := Class.reads hf y12
 have y13' := Class.reads hf y13
 have y14' := Class.reads hf y14
 have c10' := Class.reads hf c10
 have c12' := Class.reads hf c12
 have c13' := Class.reads hf c13
 have b3' := Class.reads hf b3
 have b4' := Class.reads hf b4
 have b6' := Class.reads hf b6
 have d3' := Class.reads hf d3
 have d4' := Class.reads hf d4
 have d6' := Class.reads hf d6
 have l0' := Class.reads hf l0
 have l1' := Class.reads hf l1
 repeat (go_big_quiet_step ((first
  | (go_at_call 86; exact hf.made (speed_c g oa g ob m1 i1 v1 s1 m2 i2 v2 s2 rax ray rbx rby lx nx a.vx a.vy a.sp b0.vx b0.vy b0.sp spx spy sax say sqx sqy sbx sby sdx sdy r _ h1 h2 h3 h4 jl h5 k0 k1 k2 k3 k4 k5 (b3' _) (b4' _) (b6' _) (d3' _) (d4' _) (d6' _) ep ep' ea0 ea0' eq0 eq0' eb0 eb0' ed0 ed0' er))
  | (go_at_call 12; with_reducible exact hf.same (mul_is GT r z1 _ h11 jr e1.out))
  | (go_at_call 34; with_reducible exact hf.same (neg_is1 z1 z2 _ j1 e2.out))
  | (go_at_call 26; with_reducible exact hf.same (add_is T z2 z3 _ h13 j2 e3.out)))))
 refine wpQuiet_nil ?_
 intro w3 g3
 have hb := hf.here g3
 have y0 := hb.reads y0
 have y1 := hb.reads y1
 have y2 := hb.reads y2
 have y3 := hb.reads y3
 have y4 := hb.reads y4
 have y5 := hb.reads y5
 have y6 := hb.reads y6
 have y7 := hb.reads y7
 have y8 := hb.reads y8
 have y9 := hb.reads y9
 have y10 := hb.reads y10
 have y11 := hb.reads y11
 have y12 := hb.reads y12
 have y13 := hb.reads y13
 have y14 := hb.reads y14
 have c13 := hb.reads c13
 have l0 := hb.reads l0
 have l1 := hb.reads l1
 have f13 : w3.frozen? ⟨gr, og + 13, none⟩ = false := (hb.2 _).trans f13
 have KM := hid (MW.out.then_ (hb.low MW.out.1.size))
 clear hb hf g3 MW b3 b4 b6 d3 d4 d6 c10 c12 y0' y1' y2' y3' y4' y5' y6' y7' y8' y9' y10' y11' y12' y13' y14' c10' c12' c13' b3' b4' b6' d3' d4' d6' l0' l1'
 go_wp2_with fail
 refine (neg_is1 mo mn _ jo en.out).mono ?_
 rintro e w' ⟨rfl, rfl⟩
 go_wp2_with fail
 refine (bring_is z3 mn mo nT _ j3 jn jo e4.out).mono ?_
 rintro e w' ⟨rfl, rfl⟩
 go_upto_region 5 with fail
 refine reg_made_tail 11 (by kernel_rfl) (by kernel_rfl) ?_
 intro T' hT f hf
 have y0' := Class.reads hf y0
 have y1' := Class.reads hf y1
 have y2' := Class.reads hf y2
 have y3' := Class.reads hf y3
 have y4' := Class.reads hf y4
 have y5' := Class.reads hf y5
 have y6' := Class.reads hf y6
 have y7' := Class.reads hf y7
 have y8' := Class.reads hf y8
 have y9' := Class.reads hf y9
 have y10' := Class.reads hf y10
 have y11' := Class.reads hf y11
 have y12' := Class.reads hf y12
 have y13' := Class.reads hf y13
 have y14' := Class.reads hf y14
 have c13' := Class.reads hf c13
 have l0' := Class.reads hf l0
 have l1' := Class.reads hf l1
 simp only [List.take_succ_cons, List.take_zero, List.drop_succ_cons, List.drop_zero]
 repeat (go_big_quiet_step ((first
  | (go_at_call 14; with_reducible exact hf.same (sub_is nT T dn _ j4 h13 e5.out))
  | (go_at_call 85; with_reducible exact hf.made (vscale_is lx nx dn px py _ jl h5 j5 e6.out e7.out)))))
 refine wpQuiet_nil ?_
 intro w2 g2
 have hb := hf.here g2
 have y0 := hb.reads y0
 have c13 := hb.reads c13
 have f13 : w2.frozen? ⟨gr, og + 13, none⟩ = false := (hb.2 _).trans f13
 have K2 := hid (KM.out.then_ (hb.low KM.out.1.size))
 have HQ := hid (HAP.out w2 K2.out)
 clear HAP hb hf g2 KM y0' y1' y2' y3' y4' y5' y6' y7' y8' y9' y10' y11' y12' y13' y14' c13' l0' l1' y1 y2 y3 y4 y5 y6 y7 y8 y9 y10 y11 y12 y13 y14 l0 l1
 go_wp2_with fail
 refine HQ.out.mono ?_
 rintro e v ⟨rfl, kb, kl⟩
 have y0 := kb.cell y0 (by simp; omega)
 have c13 := kb.cell c13 (by simpa using hgr)
 have f13 : v.frozen? ⟨gr, og + 13, none⟩ = false := (kb.marks _).trans f13
 have KB := hid kb
 have KL := hid kl
 clear kb kl HQ
 go_wp2_with fail
 exact bodyPost_end (results_none rfl _ _ _) rfl ⟨rfl, v, rfl, K2.out.but.then_ KB.out, KL.out⟩
end Go.Proofs.YtjhcejmfiekjgaaGreat.Fx