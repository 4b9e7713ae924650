/- SoF SoG SoN SoQ -/
import Derived.Test.YtcfphdcinihdbaaGreatSn20
import Derived.Test.YtcfphdcinihdbaaGreatSn26
set_option maxRecDepth 100000
set_option maxHeartbeats 64000000
/- Package solve: a row pushes along its normal. -/
namespace Go.Proofs.YtcfphdcinihdbaaGreat.Fx
open Go.ChangeShapes Go.WideShapes Go.ChangeAt Go.RowKit
set_option linter.unusedVariables false
theorem push_c {t : TypeId} {g n i k gr og : Nat} {L : List Bd} {a b0 b : Bd} (nx ny GN Out N : Int) (m1 i1 v1 s1 m2 i2 v2 s2 rax ray rbx rby : Int)
  (spx spy sax say sqx sqy sbx sby sdx sdy r : Int) (z1 z2 z3 nN dn px py : Int) (ux uy ax ay cc dd asp qx qy bx by_ ee ff bsp : Int) (w : World) (hgr : gr ≠ g)
  (hL : RowL encB 11 w g t n L) (hi : L[i]? = some a) (hk0 : L[k]? = some b0) (hk : (L.set i { a with vx := ax, vy := ay, sp := asp })[k]? = some b) (hA : BdI a) (hB0 : BdI b0) (hB : BdI b)
  (c3 : w.cell? ⟨gr, og + 3, none⟩ = some (.int .i64 nx)) (c4 : w.cell? ⟨gr, og + 4, none⟩ = some (.int .i64 ny)) (c9 : w.cell? ⟨gr, og + 9, none⟩ = some (.int .i64 GN)) (c11 : w.cell? ⟨gr, og + 11, none⟩ = some (.int .i64 Out)) (c12 : w.cell? ⟨gr, og + 12, none⟩ = some (.int .i64 N)) (hfr : w.frozen? ⟨gr, og + 12, none⟩ = false)
  (h1 : I64 rax) (h2 : I64 ray) (h3 : I64 rbx) (h4 : I64 rby) (h5 : I64 nx) (h6 : I64 ny) (h7 : I64 v1) (h8 : I64 s1) (h9 : I64 v2) (h10 : I64 s2) (h11 : I64 GN) (h12 : I64 Out) (h13 : I64 N)
  (ep : Hid (mulF (negF ray) a.sp = spx)) (ep' : Hid (mulF rax a.sp = spy)) (ea0 : Hid (addF a.vx spx = sax)) (ea0' : Hid (addF a.vy spy = say))
  (eq0 : Hid (mulF (negF rby) b0.sp = sqx)) (eq0' : Hid (mulF rbx b0.sp = sqy)) (eb0 : Hid (addF b0.vx sqx = sbx)) (eb0' : Hid (addF b0.vy sqy = sby))
  (ed0 : Hid (subF sbx sax = sdx)) (ed0' : Hid (subF sby say = sdy)) (er : Hid (addF (mulF sdx nx) (mulF sdy ny) = r))
  (e1 : Hid (subF Out r = z1)) (e2 : Hid (mulF GN z1 = z2)) (e3 : Hid (addF N z2 = z3)) (e4 : max 0 z3 = nN) (e5 : Hid (subF nN N = dn)) (e6 : Hid (mulF nx dn = px)) (e7 : Hid (mulF ny dn = py))
  (eu : Hid (mulF px v1 = ux)) (eu' : Hid (mulF py v1 = uy)) (ea : Hid (subF a.vx ux = ax)) (ea' : Hid (subF a.vy uy = ay))
  (ec : Hid (subF (mulF rax py) (mulF ray px) = cc)) (ed : Hid (mulF s1 cc = dd)) (es : Hid (subF a.sp dd = asp))
  (eq : Hid (mulF px v2 = qx)) (eq' : Hid (mulF py v2 = qy)) (eb : Hid (addF b.vx qx = bx)) (eb' : Hid (addF b.vy qy = by_))
  (ee_ : Hid (subF (mulF rbx py) (mulF rby px) = ee)) (ef : Hid (mulF s2 ee = ff)) (et : Hid (addF b.sp ff = bsp)) :
  Calls Tryz.prog 78 #[.agg #[.pointer (some ⟨gr, og, none⟩), .pointer (some ⟨g, i * 11, none⟩), .pointer (some ⟨g, k * 11, none⟩), .int .i64 m1, .int .i64 i1, .int .i64 v1, .int .i64 s1, .int .i64 m2, .int .i64 i2, .int .i64 v2, .int .i64 s2, .int .i64 rax, .int .i64 ray, .int .i64 rbx, .int .i64 rby]] w
   fun e v => e = .returned (.tuple #[]) ∧ ∃ u, v = u.setCell ⟨gr, og + 12, none⟩ (.int .i64 nN) ∧ But (fun x => x = g) w u ∧ RowL encB 11 u g t n ((L.set i { a with vx := ax, vy := ay, sp := asp }).set k { b with vx := bx, vy := by_, sp := bsp }) := by
 have jr : I64 r := by rw [← er.out]; exact i64_add _ _
 have j1 : I64 z1 := by rw [← e1.out]; exact i64_sub _ _
 have j2 : I64 z2 := by rw [← e2.out]; exact i64_mul _ _
 have j3 : I64 z3 := by rw [← e3.out]; exact i64_add _ _
 have j4 : I64 nN := by rw [← e4]; unfold I64 at *; omega
 have j5 : I64 dn := by rw [← e5.out]; exact i64_sub _ _
 have jp : I64 px := by rw [← e6.out]; exact i64_mul _ _
 have jp' : I64 py := by rw [← e7.out]; exact i64_mul _ _
 have lg := hL.here
 have lr := World.block_lt_of_cell? _ _ c3
 simp only at lr
 have k0 := hA.vx
 have k1 := hA.vy
 have k2 := hA.sp
 have k3 := hB0.vx
 have k4 := hB0.vy
 have k5 := hB0.sp
 obtain ⟨oa, hoa⟩ : ∃ o, i * 11 = o := ⟨_, rfl⟩
 obtain ⟨ob, hob⟩ : ∃ o, k * 11 = o := ⟨_, rfl⟩
 have b3 : w.cell? ⟨g, oa + 3, none⟩ = some (.int .i64 a.vx) := by rw [← hoa]; exact hL.at1 encB_len hi rfl
 have b4 : w.cell? ⟨g, oa + 4, none⟩ = some (.int .i64 a.vy) := by rw [← hoa]; exact hL.at1 encB_len hi rfl
 have b6 : w.cell? ⟨g, oa + 6, none⟩ = some (.int .i64 a.sp) := by rw [← hoa]; exact hL.at1 encB_len hi rfl
 have d3 : w.cell? ⟨g, ob + 3, none⟩ = some (.int .i64 b0.vx) := by rw [← hob]; exact hL.at1 encB_len hk0 rfl
 have d4 : w.cell? ⟨g, ob + 4, none⟩ = some (.int .i64 b0.vy) := by rw [← hob]; exact hL.at1 encB_len hk0 rfl
 have d6 : w.cell? ⟨g, ob + 6, none⟩ = some (.int .i64 b0.sp) := by rw [← hob]; exact hL.at1 encB_len hk0 rfl
 have HAP := hid (fun (w2 : World) (k2 : Made w.heap.size w w2) => apply_c m1 i1 v1 s1 m2 i2 v2 s2 rax ray rbx rby px py ux uy ax ay cc dd asp qx qy bx by_ ee ff bsp w2 (hL.stays k2 lg) hi hk hA hB h1 h2 h3 h4 jp jp' h7 h8 h9 h10 eu eu' ea ea' ec ed es eq eq' eb eb' ee_ ef et)
 rw [hoa, hob] at HAP
 rw [hoa, hob]
 clear hoa hob hL hA hB hB0 hi hk hk0
 go_enter Tryz.func78, Tryz.ntmps78
 go_upto_region 1 with fail
 refine reg_made (by kernel_rfl) (by kernel_rfl) ?_
 intro T' hT f hf
 have y0 := Class.reads hf (p := ⟨w.heap.size, 0, none⟩) (u := .pointer (some ⟨gr, og, none⟩)) (by go_simp)
 have y1 := Class.reads hf (p := ⟨w.heap.size, 1, none⟩) (u := .pointer (some ⟨g, oa, none⟩)) (by go_simp)
 have y2 := Class.reads hf (p := ⟨w.heap.size, 2, none⟩) (u := .pointer (some ⟨g, ob, none⟩)) (by go_simp)
 have y3 := Class.reads hf (p := ⟨w.heap.size, 3, none⟩) (u := .int .i64 m1) (by go_simp)
 have y4 := Class.reads hf (p := ⟨w.heap.size, 4, none⟩) (u := .int .i64 i1) (by go_simp)
 have y5 := Class.reads hf (p := ⟨w.heap.size, 5, none⟩) (u := .int .i64 v1) (by go_simp)
 have y6 := Class.reads hf (p := ⟨w.heap.size, 6, none⟩) (u := .int .i64 s1) (by go_simp)
 have y7 := Class.reads hf (p := ⟨w.heap.size, 7, none⟩) (u := .int .i64 m2) (by go_simp)
 have y8 := Class.reads hf (p := ⟨w.heap.size, 8, none⟩) (u := .int .i64 i2) (by go_simp)
 have y9 := Class.reads hf (p := ⟨w.heap.size, 9, none⟩) (u := .int .i64 v2) (by go_simp)
 have y10 := Class.reads hf (p := ⟨w.heap.size, 10, none⟩) (u := .int .i64 s2) (by go_simp)
 have y11 := Class.reads hf (p := ⟨w.heap.size, 11, none⟩) (u := .int .i64 rax) (by go_simp)
 have y12 := Class.reads hf (p := ⟨w.heap.size, 12, none⟩) (u := .int .i64 ray) (by go_simp)
 have y13 := Class.reads hf (p := ⟨w.heap.size, 13, none⟩) (u := .int .i64 rbx) (by go_simp)
 have y14 := Class.reads hf (p := ⟨w.heap.size, 14, none⟩) (u := .int .i64 rby) (by go_simp)
 have c3' := Class.reads hf (p := ⟨gr, og + 3, none⟩) (u := .int .i64 nx) (by go_simp)
 have c4' := Class.reads hf (p := ⟨gr, og + 4, none⟩) (u := .int .i64 ny) (by go_simp)
 have c9' := Class.reads hf (p := ⟨gr, og + 9, none⟩) (u := .int .i64 GN) (by go_simp)
 have c11' := Class.reads hf (p := ⟨gr, og + 11, none⟩) (u := .int .i64 Out) (by go_simp)
 have c12' := Class.reads hf (p := ⟨gr, og + 12, none⟩) (u := .int .i64 N) (by go_simp)
 have b3' := Class.reads hf (p := ⟨g, oa + 3, none⟩) (u := .int .i64 a.vx) (by go_simp)
 have b4' := Class.reads hf (p := ⟨g, oa + 4, none⟩) (u := .int .i64 a.vy) (by go_simp)
 have b6' := Class.reads hf (p := ⟨g, oa + 6, none⟩) (u := .int .i64 a.sp) (by go_simp)
 have d3' := Class.reads hf (p := ⟨g, ob + 3, none⟩) (u := .int .i64 b0.vx) (by go_simp)
 have d4' := Class.reads hf (p := ⟨g, ob + 4, none⟩) (u := .int .i64 b0.vy) (by go_simp)
 have d6' := Class.reads hf (p := ⟨g, ob + 6, none⟩) (u := .int .i64 b0.sp) (by go_simp)
 repeat (go_big_quiet_step ((first
  | (go_at_call 133; exact hf.made (speed_c g oa g ob m1 i1 v1 s1 m2 i2 v2 s2 rax ray rbx rby nx ny a.vx a.vy a.sp b0.vx b0.vy b0.sp spx spy sax say sqx sqy sbx sby sdx sdy r _ h1 h2 h3 h4 h5 h6 k0 k1 k2 k3 k4 k5 (b3' _) (b4' _) (b6' _) (d3' _) (d4' _) (d6' _) ep ep' ea0 ea0' eq0 eq0' eb0 eb0' ed0 ed0' er))
  | (go_at_call 15; with_reducible exact hf.same (sub_is Out r z1 _ h12 jr e1.out))
  | (go_at_call 19; with_reducible exact hf.same (mul_is GN z1 z2 _ h11 j1 e2.out))
  | (go_at_call 50; with_reducible exact hf.same (add_is N z2 z3 _ h13 j2 e3.out)))))
 refine wpQuiet_nil ?_
 intro w1 g1
 have hb := hf.here g1
 have x0 := hb.reads (p := ⟨w.heap.size, 0, none⟩) (x := .pointer (some ⟨gr, og, none⟩)) (by go_simp)
 have x1 := hb.reads (p := ⟨w.heap.size, 1, none⟩) (x := .pointer (some ⟨g, oa, none⟩)) (by go_simp)
 have x2 := hb.reads (p := ⟨w.heap.size, 2, none⟩) (x := .pointer (some ⟨g, ob, none⟩)) (by go_simp)
 have x3 := hb.reads (p := ⟨w.heap.size, 3, none⟩) (x := .int .i64 m1) (by go_simp)
 have x4 := hb.reads (p := ⟨w.heap.size, 4, none⟩) (x := .int .i64 i1) (by go_simp)
 have x5 := hb.reads (p := ⟨w.heap.size, 5, none⟩) (x := .int .i64 v1) (by go_simp)
 have x6 := hb.reads (p := ⟨w.heap.size, 6, none⟩) (x := .int .i64 s1) (by go_simp)
 have x7 := hb.reads (p := ⟨w.heap.size, 7, none⟩) (x := .int .i64 m2) (by go_simp)
 have x8 := hb.reads (p := ⟨w.heap.size, 8, none⟩) (x := .int .i64 i2) (by go_simp)
 have x9 := hb.reads (p := ⟨w.heap.size, 9, none⟩) (x := .int .i64 v2) (by go_simp)
 have x10 := hb.reads (p := ⟨w.heap.size, 10, none⟩) (x := .int .i64 s2) (by go_simp)
 have x11 := hb.reads (p := ⟨w.heap.size, 11, none⟩) (x := .int .i64 rax) (by go_simp)
 have x12 := hb.reads (p := ⟨w.heap.size, 12, none⟩) (x := .int .i64 ray) (by go_simp)
 have x13 := hb.reads (p := ⟨w.heap.size, 13, none⟩) (x := .int .i64 rbx) (by go_simp)
 have x14 := hb.reads (p := ⟨w.heap.size, 14, none⟩) (x := .int .i64 rby) (by go_simp)
 have r3 := hb.reads (p := ⟨gr, og + 3, none⟩) (x := .int .i64 nx) (by go_simp)
 have r4 := hb.reads (p := ⟨gr, og + 4, none⟩) (x := .int .i64 ny) (by go_simp)
 have r12 := hb.reads (p := ⟨gr, og + 12, none⟩) (x := .int .i64 N) (by go_simp)
 have KM := hid (made_box hb)
 have f12 : w1.frozen? ⟨gr, og + 12, none⟩ = false := (KM.out.2 _).trans hfr
 clear hb hf g1 y0 y1 y2 y3 y4 y5 y6 y7 y8 y9 y10 y11 y12 y13 y14 c3' c4' c9' c11' c12' b3 b3' b4 b4' b6 b6' d3 d3' d4 d4' d6 d6' c3 c4 c9 c11 c12
 go_upto_region 2 with fail
 try simp only [e4]
 refine reg_made_tail 15 (by kernel_rfl) (by kernel_rfl) ?_
 intro T' hT f hf
 have y0 := Class.reads hf x0
 have y1 := Class.reads hf x1
 have y2 := Class.reads hf x2
 have y3 := Class.reads hf x3
 have y4 := Class.reads hf x4
 have y5 := Class.reads hf x5
 have y6 := Class.reads hf x6
 have y7 := Class.reads hf x7
 have y8 := Class.reads hf x8
 have y9 := Class.reads hf x9
 have y10 := Class.reads hf x10
 have y11 := Class.reads hf x11
 have y12 := Class.reads hf x12
 have y13 := Class.reads hf x13
 have y14 := Class.reads hf x14
 have c3 := Class.reads hf r3
 have c4 := Class.reads hf r4
 have c12 := Class.reads hf r12
 simp only [List.take_succ_cons, List.take_zero, List.drop_succ_cons, List.drop_zero]
 repeat (go_big_quiet_step ((first
  | (go_at_call 15; with_reducible exact hf.same (sub_is nN N dn _ j4 h13 e5.out))
  | (go_at_call 70; with_reducible exact hf.made (vscale_is nx ny dn px py _ h5 h6 j5 e6.out e7.out)))))
 refine wpQuiet_nil ?_
 intro w2 g2
 have hb := hf.here g2
 have x0 := hb.reads x0
 have r12 := hb.reads r12
 have f12 : w2.frozen? ⟨gr, og + 12, none⟩ = false := (hb.2 _).trans f12
 have K2 := hid (KM.out.then_ (hb.low KM.out.1.size))
 have HQ := hid (HAP.out w2 K2.out)
 clear HAP hb hf g2 y0 y1 y2 y3 y4 y5 y6 y7 y8 y9 y10 y11 y12 y13 y14 c3 c4 c12 x1 x2 x3 x4 x5 x6 x7 x8 x9 x10 x11 x12 x13 x14 r3 r4 KM
 go_wp2_with fail
 refine HQ.out.mono ?_
 rintro e v ⟨rfl, kb, kl⟩
 have x0 := kb.cell x0 (by simp; omega)
 have r12 := kb.cell r12 (by simpa using hgr)
 have f12 : v.frozen? ⟨gr, og + 12, none⟩ = false := (kb.marks _).trans f12
 have KB := hid kb
 have KL := hid kl
 clear kb kl HQ
 go_wp2_with fail
 exact bodyPost_end (results_none rfl _ _ _) rfl ⟨rfl, v, rfl, K2.out.but.then_ KB.out, KL.out⟩
end Go.Proofs.YtcfphdcinihdbaaGreat.Fx
/- Package solve: a row rubs across its normal. -/
namespace Go.Proofs.YtcfphdcinihdbaaGreat.Fx
open Go.ChangeShapes Go.WideShapes Go.ChangeAt Go.RowKit
set_option linter.unusedVariables false
theorem rub_c {t : TypeId} {g n i k gr og : Nat} {L : List Bd} {a b0 b : Bd} (nx ny GT N T : Int) (m1 i1 v1 s1 m2 i2 v2 s2 rax ray rbx rby : Int)
  (spx spy sax say sqx sqy sbx sby sdx sdy r : Int) (lx mo z1 z2 z3 mn nT dn px py : Int) (ux uy ax ay cc dd asp qx qy bx by_ ee ff bsp : Int) (w : World) (hgr : gr ≠ g)
  (hL : RowL encB 11 w g t n L) (hi : L[i]? = some a) (hk0 : L[k]? = some b0) (hk : (L.set i { a with vx := ax, vy := ay, sp := asp })[k]? = some b) (hA : BdI a) (hB0 : BdI b0) (hB : BdI b)
  (c3 : w.cell? ⟨gr, og + 3, none⟩ = some (.int .i64 nx)) (c4 : w.cell? ⟨gr, og + 4, none⟩ = some (.int .i64 ny)) (c10 : w.cell? ⟨gr, og + 10, none⟩ = some (.int .i64 GT)) (c12 : w.cell? ⟨gr, og + 12, none⟩ = some (.int .i64 N)) (c13 : w.cell? ⟨gr, og + 13, none⟩ = some (.int .i64 T)) (hfr : w.frozen? ⟨gr, og + 13, none⟩ = false)
  (h1 : I64 rax) (h2 : I64 ray) (h3 : I64 rbx) (h4 : I64 rby) (h5 : I64 nx) (h6 : I64 ny) (h7 : I64 v1) (h8 : I64 s1) (h9 : I64 v2) (h10 : I64 s2) (h11 : I64 GT) (h12 : I64 N) (h13 : I64 T)
  (ep : Hid (mulF (negF ray) a.sp = spx)) (ep' : Hid (mulF rax a.sp = spy)) (ea0 : Hid (addF a.vx spx = sax)) (ea0' : Hid (addF a.vy spy = say))
  (eq0 : Hid (mulF (negF rby) b0.sp = sqx)) (eq0' : Hid (mulF rbx b0.sp = sqy)) (eb0 : Hid (addF b0.vx sqx = sbx)) (eb0' : Hid (addF b0.vy sqy = sby))
  (ed0 : Hid (subF sbx sax = sdx)) (ed0' : Hid (subF sby say = sdy)) (el : Hid (negF ny = lx)) (eo : Hid (mulF N 2147483648 = mo)) (er : Hid (addF (mulF sdx lx) (mulF sdy nx) = r))
  (e1 : Hid (mulF GT r = z1)) (e2 : Hid (negF z1 = z2)) (e3 : Hid (addF T z2 = z3)) (en : Hid (negF mo = mn)) (e4 : Hid (bringF z3 mn mo = nT)) (e5 : Hid (subF nT T = dn)) (e6 : Hid (mulF lx dn = px)) (e7 : Hid (mulF nx dn = py))
  (eu : Hid (mulF px v1 = ux)) (eu' : Hid (mulF py v1 = uy)) (ea : Hid (subF a.vx ux = ax)) (ea' : Hid (subF a.vy uy = ay))
  (ec : Hid (subF (mulF rax py) (mulF ray px) = cc)) (ed : Hid (mulF s1 cc = dd)) (es : Hid (subF a.sp dd = asp))
  (eq : Hid (mulF px v2 = qx)) (eq' : Hid (mulF py v2 = qy)) (eb : Hid (addF b.vx qx = bx)) (eb' : Hid (addF b.vy qy = by_))
  (ee_ : Hid (subF (mulF rbx py) (mulF rby px) = ee)) (ef : Hid (mulF s2 ee = ff)) (et : Hid (addF b.sp ff = bsp)) :
  Calls Tryz.prog 77 #[.agg #[.pointer (some ⟨gr, og, none⟩), .pointer (some ⟨g, i * 11, none⟩), .pointer (some ⟨g, k * 11, none⟩), .int .i64 m1, .int .i64 i1, .int .i64 v1, .int .i64 s1, .int .i64 m2, .int .i64 i2, .int .i64 v2, .int .i64 s2, .int .i64 rax, .int .i64 ray, .int .i64 rbx, .int .i64 rby]] w
   fun e v => e = .returned (.tuple #[]) ∧ ∃ u, v = u.setCell ⟨gr, og + 13, none⟩ (.int .i64 nT) ∧ But (fun x => x = g) w u ∧ RowL encB 11 u g t n ((L.set i { a with vx := ax, vy := ay, sp := asp }).set k { b with vx := bx, vy := by_, sp := bsp }) := by
 have jr : I64 r := by rw [← er.out]; exact i64_add _ _
 have jl : I64 lx := by rw [← el.out]; exact i64_neg h6
 have jo : I64 mo := by rw [← eo.out]; exact i64_mul _ _
 have jn : I64 mn := by rw [← en.out]; exact i64_neg jo
 have j1 : I64 z1 := by rw [← e1.out]; exact i64_mul _ _
 have j2 : I64 z2 := by rw [← e2.out]; exact i64_neg j1
 have j3 : I64 z3 := by rw [← e3.out]; exact i64_add _ _
 have j4 : I64 nT := by rw [← e4.out]; exact i64_bring j3 jn jo
 have jh : I64 2147483648 := by unfold I64; omega
 have j5 : I64 dn := by rw [← e5.out]; exact i64_sub _ _
 have jp : I64 px := by rw [← e6.out]; exact i64_mul _ _
 have jp' : I64 py := by rw [← e7.out]; exact i64_mul _ _
 have lg := hL.here
 have lr := World.block_lt_of_cell? _ _ c3
 simp only at lr
 have k0 := hA.vx
 have k1 := hA.vy
 have k2 := hA.sp
 have k3 := hB0.vx
 have k4 := hB0.vy
 have k5 := hB0.sp
 obtain ⟨oa, hoa⟩ : ∃ o, i * 11 = o := ⟨_, rfl⟩
 obtain ⟨ob, hob⟩ : ∃ o, k * 11 = o := ⟨_, rfl⟩
 have b3 : w.cell? ⟨g, oa + 3, none⟩ = some (.int .i64 a.vx) := by rw [← hoa]; exact hL.at1 encB_len hi rfl
 have b4 : w.cell? ⟨g, oa + 4, none⟩ = some (.int .i64 a.vy) := by rw [← hoa]; exact hL.at1 encB_len hi rfl
 have b6 : w.cell? ⟨g, oa + 6, none⟩ = some (.int .i64 a.sp) := by rw [← hoa]; exact hL.at1 encB_len hi rfl
 have d3 : w.cell? ⟨g, ob + 3, none⟩ = some (.int .i64 b0.vx) := by rw [← hob]; exact hL.at1 encB_len hk0 rfl
 have d4 : w.cell? ⟨g, ob + 4, none⟩ = some (.int .i64 b0.vy) := by rw [← hob]; exact hL.at1 encB_len hk0 rfl
 have d6 : w.cell? ⟨g, ob + 6, none⟩ = some (.int .i64 b0.sp) := by rw [← hob]; exact hL.at1 encB_len hk0 rfl
 have HAP := hid (fun (w2 : World) (k2 : Made w.heap.size w w2) => apply_c m1 i1 v1 s1 m2 i2 v2 s2 rax ray rbx rby px py ux uy ax ay cc dd asp qx qy bx by_ ee ff bsp w2 (hL.stays k2 lg) hi hk hA hB h1 h2 h3 h4 jp jp' h7 h8 h9 h10 eu eu' ea ea' ec ed es eq eq' eb eb' ee_ ef et)
 rw [hoa, hob] at HAP
 rw [hoa, hob]
 clear hoa hob hL hA hB hB0 hi hk hk0
 go_enter Tryz.func77, Tryz.ntmps77
 go_wp2_with fail
 refine (vleft_is nx ny lx _ h5 h6 el.out).mono ?_
 rintro e w1 ⟨rfl, k1⟩
 have y0 : w1.cell? ⟨w.heap.size, 0, none⟩ = some (.pointer (some ⟨gr, og, none⟩)) := k1.reads (p := ⟨w.heap.size, 0, none⟩) (x := .pointer (some ⟨gr, og, none⟩)) (by go_simp)
 have y1 : w1.cell? ⟨w.heap.size, 1, none⟩ = some (.pointer (some ⟨g, oa, none⟩)) := k1.reads (p := ⟨w.heap.size, 1, none⟩) (x := .pointer (some ⟨g, oa, none⟩)) (by go_simp)
 have y2 : w1.cell? ⟨w.heap.size, 2, none⟩ = some (.pointer (some ⟨g, ob, none⟩)) := k1.reads (p := ⟨w.heap.size, 2, none⟩) (x := .pointer (some ⟨g, ob, none⟩)) (by go_simp)
 have y3 : w1.cell? ⟨w.heap.size, 3, none⟩ = some (.int .i64 m1) := k1.reads (p := ⟨w.heap.size, 3, none⟩) (x := .int .i64 m1) (by go_simp)
 have y4 : w1.cell? ⟨w.heap.size, 4, none⟩ = some (.int .i64 i1) := k1.reads (p := ⟨w.heap.size, 4, none⟩) (x := .int .i64 i1) (by go_simp)
 have y5 : w1.cell? ⟨w.heap.size, 5, none⟩ = some (.int .i64 v1) := k1.reads (p := ⟨w.heap.size, 5, none⟩) (x := .int .i64 v1) (by go_simp)
 have y6 : w1.cell? ⟨w.heap.size, 6, none⟩ = some (.int .i64 s1) := k1.reads (p := ⟨w.heap.size, 6, none⟩) (x := .int .i64 s1) (by go_simp)
 have y7 : w1.cell? ⟨w.heap.size, 7, none⟩ = some (.int .i64 m2) := k1.reads (p := ⟨w.heap.size, 7, none⟩) (x := .int .i64 m2) (by go_simp)
 have y8 : w1.cell? ⟨w.heap.size, 8, none⟩ = some (.int .i64 i2) := k1.reads (p := ⟨w.heap.size, 8, none⟩) (x := .int .i64 i2) (by go_simp)
 have y9 : w1.cell? ⟨w.heap.size, 9, none⟩ = some (.int .i64 v2) := k1.reads (p := ⟨w.heap.size, 9, none⟩) (x := .int .i64 v2) (by go_simp)
 have y10 : w1.cell? ⟨w.heap.size, 10, none⟩ = some (.int .i64 s2) := k1.reads (p := ⟨w.heap.size, 10, none⟩) (x := .int .i64 s2) (by go_simp)
 have y11 : w1.cell? ⟨w.heap.size, 11, none⟩ = some (.int .i64 rax) := k1.reads (p := ⟨w.heap.size, 11, none⟩) (x := .int .i64 rax) (by go_simp)
 have y12 : w1.cell? ⟨w.heap.size, 12, none⟩ = some (.int .i64 ray) := k1.reads (p := ⟨w.heap.size, 12, none⟩) (x := .int .i64 ray) (by go_simp)
 have y13 : w1.cell? ⟨w.heap.size, 13, none⟩ = some (.int .i64 rbx) := k1.reads (p := ⟨w.heap.size, 13, none⟩) (x := .int .i64 rbx) (by go_simp)
 have y14 : w1.cell? ⟨w.heap.size, 14, none⟩ = some (.int .i64 rby) := k1.reads (p := ⟨w.heap.size, 14, none⟩) (x := .int .i64 rby) (by go_simp)
 have c10 : w1.cell? ⟨gr, og + 10, none⟩ = some (.int .i64 GT) := k1.reads (p := ⟨gr, og + 10, none⟩) (x := .int .i64 GT) (by go_simp)
 have c12 : w1.cell? ⟨gr, og + 12, none⟩ = some (.int .i64 N) := k1.reads (p := ⟨gr, og + 12, none⟩) (x := .int .i64 N) (by go_simp)
 have c13 : w1.cell? ⟨gr, og + 13, none⟩ = some (.int .i64 T) := k1.reads (p := ⟨gr, og + 13, none⟩) (x := .int .i64 T) (by go_simp)
 have b3 : w1.cell? ⟨g, oa + 3, none⟩ = some (.int .i64 a.vx) := k1.reads (p := ⟨g, oa + 3, none⟩) (x := .int .i64 a.vx) (by go_simp)
 have b4 : w1.cell? ⟨g, oa + 4, none⟩ = some (.int .i64 a.vy) := k1.reads (p := ⟨g, oa + 4, none⟩) (x := .int .i64 a.vy) (by go_simp)
 have b6 : w1.cell? ⟨g, oa + 6, none⟩ = some (.int .i64 a.sp) := k1.reads (p := ⟨g, oa + 6, none⟩) (x := .int .i64 a.sp) (by go_simp)
 have d3 : w1.cell? ⟨g, ob + 3, none⟩ = some (.int .i64 b0.vx) := k1.reads (p := ⟨g, ob + 3, none⟩) (x := .int .i64 b0.vx) (by go_simp)
 have d4 : w1.cell? ⟨g, ob + 4, none⟩ = some (.int .i64 b0.vy) := k1.reads (p := ⟨g, ob + 4, none⟩) (x := .int .i64 b0.vy) (by go_simp)
 have d6 : w1.cell? ⟨g, ob + 6, none⟩ = some (.int .i64 b0.sp) := k1.reads (p := ⟨g, ob + 6, none⟩) (x := .int .i64 b0.sp) (by go_simp)
 have KM := hid (made_box k1)
 have f13 : w1.frozen? ⟨gr, og + 13, none⟩ = false := (KM.out.2 _).trans hfr
 clear k1 c3 c4
 go_upto_region 2 with fail
 obtain ⟨W, eW⟩ : ∃ W, W = w1.alloc (.cells #[.int .i64 lx, .int .i64 nx] 27) := ⟨_, rfl⟩
 have l0 : W.cell? ⟨w1.heap.size, 0, none⟩ = some (.int .i64 lx) := by rw [eW]; exact (has_new w1 _ _).at_ 0
 have l1 : W.cell? ⟨w1.heap.size, 1, none⟩ = some (.int .i64 nx) := by rw [eW]; exact (has_new w1 _ _).at_ 1
 have y0 : W.cell? ⟨w.heap.size, 0, none⟩ = some (.pointer (some ⟨gr, og, none⟩)) := by rw [eW]; exact cell_more y0
 have y1 : W.cell? ⟨w.heap.size, 1, none⟩ = some (.pointer (some ⟨g, oa, none⟩)) := by rw [eW]; exact cell_more y1
 have y2 : W.cell? ⟨w.heap.size, 2, none⟩ = some (.pointer (some ⟨g, ob, none⟩)) := by rw [eW]; exact cell_more y2
 have y3 : W.cell? ⟨w.heap.size, 3, none⟩ = some (.int .i64 m1) := by rw [eW]; exact cell_more y3
 have y4 : W.cell? ⟨w.heap.size, 4, none⟩ = some (.int .i64 i1) := by rw [eW]; exact cell_more y4
 have y5 : W.cell? ⟨w.heap.size, 5, none⟩ = some (.int .i64 v1) := by rw [eW]; exact cell_more y5
 have y6 : W.cell? ⟨w.heap.size, 6, none⟩ = some (.int .i64 s1) := by rw [eW]; exact cell_more y6
 have y7 : W.cell? ⟨w.heap.size, 7, none⟩ = some (.int .i64 m2) := by rw [eW]; exact cell_more y7
 have y8 : W.cell? ⟨w.heap.size, 8, none⟩ = some (.int .i64 i2) := by rw [eW]; exact cell_more y8
 have y9 : W.cell? ⟨w.heap.size, 9, none⟩ = some (.int .i64 v2) := by rw [eW]; exact cell_more y9
 have y10 : W.cell? ⟨w.heap.size, 10, none⟩ = some (.int .i64 s2) := by rw [eW]; exact cell_more y10
 have y11 : W.cell? ⟨w.heap.size, 11, none⟩ = some (.int .i64 rax) := by rw [eW]; exact cell_more y11
 have y12 : W.cell? ⟨w.heap.size, 12, none⟩ = some (.int .i64 ray) := by rw [eW]; exact cell_more y12
 have y13 : W.cell? ⟨w.heap.size, 13, none⟩ = some (.int .i64 rbx) := by rw [eW]; exact cell_more y13
 have y14 : W.cell? ⟨w.heap.size, 14, none⟩ = some (.int .i64 rby) := by rw [eW]; exact cell_more y14
 have c10 : W.cell? ⟨gr, og + 10, none⟩ = some (.int .i64 GT) := by rw [eW]; exact cell_more c10
 have c12 : W.cell? ⟨gr, og + 12, none⟩ = some (.int .i64 N) := by rw [eW]; exact cell_more c12
 have c13 : W.cell? ⟨gr, og + 13, none⟩ = some (.int .i64 T) := by rw [eW]; exact cell_more c13
 have b3 : W.cell? ⟨g, oa + 3, none⟩ = some (.int .i64 a.vx) := by rw [eW]; exact cell_more b3
 have b4 : W.cell? ⟨g, oa + 4, none⟩ = some (.int .i64 a.vy) := by rw [eW]; exact cell_more b4
 have b6 : W.cell? ⟨g, oa + 6, none⟩ = some (.int .i64 a.sp) := by rw [eW]; exact cell_more b6
 have d3 : W.cell? ⟨g, ob + 3, none⟩ = some (.int .i64 b0.vx) := by rw [eW]; exact cell_more d3
 have d4 : W.cell? ⟨g, ob + 4, none⟩ = some (.int .i64 b0.vy) := by rw [eW]; exact cell_more d4
 have d6 : W.cell? ⟨g, ob + 6, none⟩ = some (.int .i64 b0.sp) := by rw [eW]; exact cell_more d6
 have MW : Hid (Made w.heap.size w W) := by unfold Hid; rw [eW]; exact KM.out.cells KM.out.1.size _ _
 have f13 : W.frozen? ⟨gr, og + 13, none⟩ = false := (MW.out.2 _).trans hfr
 rw [← eW]
 obtain ⟨gl, egl⟩ : ∃ q, w1.heap.size = q := ⟨_, rfl⟩
 rw [egl] at l0 l1 ⊢
 clear eW egl KM
 go_wp2_with fail
 refine (mul_is N 2147483648 mo _ h12 jh eo.out).mono ?_
 rintro e w' ⟨rfl, rfl⟩
 go_upto_region 3 with fail
 refine reg_made (by kernel_rfl) (by kernel_rfl) ?_
 intro T' hT f hf
 have y0' := Class.reads hf y0
 have y1' := Class.reads hf y1
 have y2' := Class.reads hf y2
 have y3' := Class.reads hf y3
 have y4' := Class.reads hf y4
 have y5' := Class.reads hf y5
 have y6' := Class.reads hf y6
 have y7' := Class.reads hf y7
 have y8' := Class.reads hf y8
 have y9' := Class.reads hf y9
 have y10' := Class.reads hf y10
 have y11' := Class.reads hf y11
 have y12' := Class.reads hf y12
 have y13' := Class.reads hf y13
 have y14' := Class.reads hf y14
 have c10' := Class.reads hf c10
 have c12' := Class.reads hf c12
 have c13' := Class.reads hf c13
 have b3' := Class.reads hf b3
 have b4' := Class.reads hf b4
 have b6' := Class.reads hf b6
 have d3' := Class.reads hf d3
 have d4' := Class.reads hf d4
 have d6' := Class.reads hf d6
 have l0' := Class.reads hf l0
 have l1' := Class.reads hf l1
 repeat (go_big_quiet_step ((first
  | (go_at_call 133; exact hf.made (speed_c g oa g ob m1 i1 v1 s1 m2 i2 v2 s2 rax ray rbx rby lx nx a.vx a.vy a.sp b0.vx b0.vy b0.sp spx spy sax say sqx sqy sbx sby sdx sdy r _ h1 h2 h3 h4 jl h5 k0 k1 k2 k3 k4 k5 (b3' _) (b4' _) (b6' _) (d3' _) (d4' _) (d6' _) ep ep' ea0 ea0' eq0 eq0' eb0 eb0' ed0 ed0' er))
  | (go_at_call 19; with_reducible exact hf.same (mul_is GT r z1 _ h11 jr e1.out))
  | (go_at_call 51; with_reducible exact hf.same (neg_is1 z1 z2 _ j1 e2.out))
  | (go_at_call 50; with_reducible exact hf.same (add_is T z2 z3 _ h13 j2 e3.out)))))
 refine wpQuiet_nil ?_
 intro w3 g3
 have hb := hf.here g3
 have y0 := hb.reads y0
 have y1 := hb.reads y1
 have y2 := hb.reads y2
 have y3 := hb.reads y3
 have y4 := hb.reads y4
 have y5 := hb.reads y5
 have y6 := hb.reads y6
 have y7 := hb.reads y7
 have y8 := hb.reads y8
 have y9 := hb.reads y9
 have y10 := hb.reads y10
 have y11 := hb.reads y11
 have y12 := hb.reads y12
 have y13 := hb.reads y13
 have y14 := hb.reads y14
 have c13 := hb.reads c13
 have l0 := hb.reads l0
 have l1 := hb.reads l1
 have f13 : w3.frozen? ⟨gr, og + 13, none⟩ = false := (hb.2 _).trans f13
 have KM := hid (MW.out.then_ (hb.low MW.out.1.size))
 clear hb hf g3 MW b3 b4 b6 d3 d4 d6 c10 c12 y0' y1' y2' y3' y4' y5' y6' y7' y8' y9' y10' y11' y12' y13' y14' c10' c12' c13' b3' b4' b6' d3' d4' d6' l0' l1'
 go_wp2_with fail
 refine (neg_is1 mo mn _ jo en.out).mono ?_
 rintro e w' ⟨rfl, rfl⟩
 go_wp2_with fail
 refine (bring_is z3 mn mo nT _ j3 jn jo e4.out).mono ?_
 rintro e w' ⟨rfl, rfl⟩
 go_upto_region 5 with fail
 refine reg_made_tail 11 (by kernel_rfl) (by kernel_rfl) ?_
 intro T' hT f hf
 have y0' := Class.reads hf y0
 have y1' := Class.reads hf y1
 have y2' := Class.reads hf y2
 have y3' := Class.reads hf y3
 have y4' := Class.reads hf y4
 have y5' := Class.reads hf y5
 have y6' := Class.reads hf y6
 have y7' := Class.reads hf y7
 have y8' := Class.reads hf y8
 have y9' := Class.reads hf y9
 have y10' := Class.reads hf y10
 have y11' := Class.reads hf y11
 have y12' := Class.reads hf y12
 have y13' := Class.reads hf y13
 have y14' := Class.reads hf y14
 have c13' := Class.reads hf c13
 have l0' := Class.reads hf l0
 have l1' := Class.reads hf l1
 simp only [List.take_succ_cons, List.take_zero, List.drop_succ_cons, List.drop_zero]
 repeat (go_big_quiet_step ((first
  | (go_at_call 15; with_reducible exact hf.same (sub_is nT T dn _ j4 h13 e5.out))
  | (go_at_call 70; with_reducible exact hf.made (vscale_is lx nx dn px py _ jl h5 j5 e6.out e7.out)))))
 refine wpQuiet_nil ?_
 intro w2 g2
 have hb := hf.here g2
 have y0 := hb.reads y0
 have c13 := hb.reads c13
 have f13 : w2.frozen? ⟨gr, og + 13, none⟩ = false := (hb.2 _).trans f13
 have K2 := hid (KM.out.then_ (hb.low KM.out.1.size))
 have HQ := hid (HAP.out w2 K2.out)
 clear HAP hb hf g2 KM y0' y1' y2' y3' y4' y5' y6' y7' y8' y9' y10' y11' y12' y13' y14' c13' l0' l1' y1 y2 y3 y4 y5 y6 y7 y8 y9 y10 y11 y12 y13 y14 l0 l1
 go_wp2_with fail
 refine HQ.out.mono ?_
 rintro e v ⟨rfl, kb, kl⟩
 have y0 := kb.cell y0 (by simp; omega)
 have c13 := kb.cell c13 (by simpa using hgr)
 have f13 : v.frozen? ⟨gr, og + 13, none⟩ = false := (kb.marks _).trans f13
 have KB := hid kb
 have KL := hid kl
 clear kb kl HQ
 go_wp2_with fail
 exact bodyPost_end (results_none rfl _ _ _) rfl ⟨rfl, v, rfl, K2.out.but.then_ KB.out, KL.out⟩
end Go.Proofs.YtcfphdcinihdbaaGreat.Fx
/- Package solve: what presses and holds do, in the plain words of SoP. -/
namespace Go.Proofs.YtcfphdcinihdbaaGreat.Fx
open Go.ChangeShapes Go.WideShapes Go.ChangeAt Go.RowKit
set_option linter.unusedVariables false
theorem bump_set' {L : List Bd} {i k : Nat} {a b : Bd} {ra rb p : Int × Int} (hi : L[i]? = some a) (hk : (L.set i (awayB ra p a))[k]? = some b) : bumpS L i k ra rb p = (L.set i (awayB ra p a)).set k (ontoB rb p b) := by
 unfold bumpS
 rw [modify_set _ hi]
 exact modify_set _ hk
theorem set_I {L : List Bd} (h : LI L) {i : Nat} {a : Bd} (ha : BdI a) : LI (L.set i a) := fun j b hb => by
 rw [List.getElem?_set] at hb
 split at hb
 ·split at hb
  ·cases hb; exact ha
  ·cases hb
 ·exact h j b hb
theorem mass_same {a b : Bd} (h : SameAt a b) : mA b = mA a ∧ mI b = mI a ∧ moveB b = moveB a ∧ spinB b = spinB a := by
 obtain ⟨e1, e2⟩ := h.area
 obtain ⟨e3, e4⟩ := h.mass
 refine ⟨?_, ?_, e3, e4⟩
 ·unfold mA; rw [e1, h.2.2.2.2.1]
 ·unfold mI; rw [e2, h.2.2.2.2.1]
theorem lk_same {L M : List Bd} (h : SameL L M) (i k : Nat) (ra rb : Int × Int) : lkOf M i k ra rb = lkOf L i k ra rb := by
 have key : ∀ j, mA (bdAt M j) = mA (bdAt L j) ∧ mI (bdAt M j) = mI (bdAt L j) ∧ moveB (bdAt M j) = moveB (bdAt L j) ∧ spinB (bdAt M j) = spinB (bdAt L j) := fun j => by
  unfold bdAt
  cases e : L[j]? with
  | none =>
   have e2 : M[j]? = none := by rw [List.getElem?_eq_none_iff] at e ⊢; rw [h.1]; exact e
   rw [e2]
   exact ⟨rfl, rfl, rfl, rfl⟩
  | some b =>
   have hj := (List.getElem?_eq_some_iff.1 e).1
   obtain ⟨c, e2⟩ : ∃ c, M[j]? = some c := ⟨_, List.getElem?_eq_getElem (by rw [h.1]; exact hj)⟩
   rw [e2]
   exact mass_same (h.2 j b c e e2)
 unfold lkOf
 obtain ⟨a1, a2, a3, a4⟩ := key i
 obtain ⟨b1, b2, b3, b4⟩ := key k
 rw [a1, a2, a3, a4, b1, b2, b3, b4]
theorem pr_same {L M : List Bd} (h : SameL L M) {r q : Ro} (hr : SameR r q) (k : Nat) : prOf M k q = prOf L k r := by
 unfold prOf
 rw [lk_same h, hr.1, hr.2.1, hr.2.2.2.2.1, hr.2.2.2.2.2.1]
theorem ho_same {L M : List Bd} (h : SameL L M) (t : Ti) : hoOf M t = hoOf L t := by
 unfold hoOf
 rw [lk_same h]
theorem SameR.rfl_ (r : Ro) : SameR r r := ⟨rfl, rfl, rfl, rfl, rfl, rfl, rfl, rfl, rfl⟩
section
variable {g gr n m : Nat} {tB tR : TypeId} {L : List Bd} {R : List Ro} {r : Ro} {k : Nat} {w : World}
theorem press_cells (gr g k : Nat) {L : List Bd} {r : Ro} {a b : Bd} (ha : L[r.a]? = some a) (hb : L[r.b]? = some b) : (encPr gr g (prOf L k r)).toArray = #[.pointer (some ⟨gr, k * 14, none⟩), .pointer (some ⟨g, r.a * 11, none⟩), .pointer (some ⟨g, r.b * 11, none⟩), .int .i64 (mA a), .int .i64 (mI a), .int .i64 (moveB a), .int .i64 (spinB a), .int .i64 (mA b), .int .i64 (mI b), .int .i64 (moveB b), .int .i64 (spinB b), .int .i64 r.ra.1, .int .i64 r.ra.2, .int .i64 r.rb.1, .int .i64 r.rb.2] := by
 unfold encPr prOf lkOf encL
 simp only
 rw [bdAt_is ha, bdAt_is hb]
theorem begin_s (hL : RowL encB 11 w g tB n L) (hR : RowL encR 14 w gr tR m R) (hr : R[k]? = some r) (hI : LI L) (hri : RoI r) (ha : r.a < n) (hb : r.b < n) :
  Calls Tryz.prog 75 #[.agg (encPr gr g (prOf L k r)).toArray] w fun e v => e = .returned (.tuple #[]) ∧ But (fun x => x = g) w v ∧ RowL encB 11 v g tB n (beginS L r) := by
 obtain ⟨a, hi⟩ : ∃ a, L[r.a]? = some a := ⟨_, List.getElem?_eq_getElem (by rw [hL.1]; exact ha)⟩
 obtain ⟨b0, hk0⟩ : ∃ a, L[r.b]? = some a := ⟨_, List.getElem?_eq_getElem (by rw [hL.1]; exact hb)⟩
 obtain ⟨p, ep⟩ : ∃ p, addS (scaS r.n r.N) (scaS (leftS r.n) r.T) = p := ⟨_, rfl⟩
 obtain ⟨b, hk⟩ : ∃ b, (L.set r.a (awayB r.ra p a))[r.b]? = some b := ⟨_, List.getElem?_eq_getElem (by rw [List.length_set, hL.1]; exact hb)⟩
 have hmb : moveB b0 = moveB b ∧ spinB b0 = spinB b := by
  rw [List.getElem?_set] at hk
  split at hk
  ·rename_i e
   split at hk
   ·cases hk
    rw [← e, hi] at hk0
    cases hk0
    have hs : SameAt a (awayB r.ra p a) := ⟨rfl, rfl, rfl, rfl, rfl, rfl, rfl, rfl, rfl, rfl, rfl⟩
    exact ⟨hs.mass.1.symm, hs.mass.2.symm⟩
   ·cases hk
  ·rw [hk0] at hk; cases hk; exact ⟨rfl, rfl⟩
 have hA := hI _ _ hi
 have hB := set_I hI (away_I hA r.ra p) _ _ hk
 have c := hR.elt hr
 rw [press_cells gr g k hi hk0, hmb.1, hmb.2]
 have e : beginS L r = (L.set r.a (awayB r.ra p a)).set r.b (ontoB r.rb p b) := by unfold beginS; rw [ep]; exact bump_set' hi hk
 rw [e]
 have e1 : addF (mulF r.n.1 r.N) (mulF (negF r.n.2) r.T) = p.1 := by rw [← ep]; rfl
 have e2 : addF (mulF r.n.2 r.N) (mulF r.n.1 r.T) = p.2 := by rw [← ep]; rfl
 exact begin_c r.n.1 r.n.2 r.N r.T _ _ _ _ _ _ _ _ r.ra.1 r.ra.2 r.rb.1 r.rb.2 _ _ _ _ _ p.1 p.2 _ _ _ _ _ _ _ _ _ _ _ _ _ _ w hL hi hk hA hB (c 3 _ rfl) (c 4 _ rfl) (c 12 _ rfl) (c 13 _ rfl)
  hri.ra.1 hri.ra.2 hri.rb.1 hri.rb.2 hri.n.1 hri.n.2 (move_I _) (spin_I _) (move_I _) (spin_I _) hri.N hri.T (hid rfl) (hid rfl) (hid rfl) (hid rfl) (hid rfl) (hid e1) (hid e2)
  (hid rfl) (hid rfl) (hid rfl) (hid rfl) (hid rfl) (hid rfl) (hid rfl) (hid rfl) (hid rfl) (hid rfl) (hid rfl) (hid rfl) (hid rfl) (hid rfl)
theorem set_mass {L : List Bd} {i k : Nat} {a b0 b : Bd} {ra p : Int × Int} (hi : L[i]? = some a) (hk0 : L[k]? = some b0) (hk : (L.set i (awayB ra p a))[k]? = some b) : moveB b0 = moveB b ∧ spinB b0 = spinB b := by
 rw [List.getElem?_set] at hk
 split at hk
 ·rename_i e
  split at hk
  ·cases hk
   rw [← e, hi] at hk0
   cases hk0
   have hs : SameAt a (awayB ra p a) := ⟨rfl, rfl, rfl, rfl, rfl, rfl, rfl, rfl, rfl, rfl, rfl⟩
   exact ⟨hs.mass.1.symm, hs.mass.2.symm⟩
  ·cases hk
 ·rw [hk0] at hk; cases hk; exact ⟨rfl, rfl⟩
theorem speed_at {L : List Bd} {i k : Nat} {a b : Bd} (hi : L[i]? = some a) (hk : L[k]? = some b) (ra rb q : Int × Int) :
  speedS L i k ra rb q = addF (mulF (subF (addF b.vx (mulF (negF rb.2) b.sp)) (addF a.vx (mulF (negF ra.2) a.sp))) q.1) (mulF (subF (addF b.vy (mulF rb.1 b.sp)) (addF a.vy (mulF ra.1 a.sp))) q.2) := by
 unfold speedS; rw [hi, hk]; rfl
theorem row_put {u : World} {x : Value} {r' : Ro} (hgr : gr ≠ g) (hL : RowL encB 11 u g tB n L) (hR : RowL encR 14 u gr tR m R) (hr : R[k]? = some r) {j : Nat} (hj : j < 14) (e : encR r' = (encR r).set j x) :
  RowL encB 11 (u.setCell ⟨gr, k * 14 + j, none⟩ x) g tB n L ∧ RowL encR 14 (u.setCell ⟨gr, k * 14 + j, none⟩ x) gr tR m (R.set k r') :=
 ⟨hL.but (X := fun b => b = gr) ((But.rfl_ (fun b => b = gr) u).put (p := ⟨gr, k * 14 + j, none⟩) (.inl rfl) x) (fun e => hgr e.symm), hR.put1 encR_len hr hj e⟩
theorem rub_s (hgr : gr ≠ g) (hL : RowL encB 11 w g tB n L) (hR : RowL encR 14 w gr tR m R) (hr : R[k]? = some r) (hI : LI L) (hri : RoI r) (ha : r.a < n) (hb : r.b < n) :
  Calls Tryz.prog 77 #[.agg (encPr gr g (prOf L k r)).toArray] w fun e v => e = .returned (.tuple #[]) ∧ But (fun x => x = g ∨ x = gr) w v ∧ RowL encB 11 v g tB n (rubS L r) ∧ RowL encR 14 v gr tR m (R.set k { r with T := rubT L r }) := by
 obtain ⟨a, hi⟩ : ∃ a, L[r.a]? = some a := ⟨_, List.getElem?_eq_getElem (by rw [hL.1]; exact ha)⟩
 obtain ⟨b0, hk0⟩ : ∃ a, L[r.b]? = some a := ⟨_, List.getElem?_eq_getElem (by rw [hL.1]; exact hb)⟩
 obtain ⟨p, ep⟩ : ∃ p, scaS (leftS r.n) (subF (rubT L r) r.T) = p := ⟨_, rfl⟩
 obtain ⟨b, hk⟩ : ∃ b, (L.set r.a (awayB r.ra p a))[r.b]? = some b := ⟨_, List.getElem?_eq_getElem (by rw [List.length_set, hL.1]; exact hb)⟩
 have hmb := set_mass hi hk0 hk
 have hA := hI _ _ hi
 have hB0 := hI _ _ hk0
 have hB := set_I hI (away_I hA r.ra p) _ _ hk
 have c := hR.elt hr
 rw [press_cells gr g k hi hk0, hmb.1, hmb.2]
 have e : rubS L r = (L.set r.a (awayB r.ra p a)).set r.b (ontoB r.rb p b) := by unfold rubS; rw [ep]; exact bump_set' hi hk
 rw [e]
 have eT : bringF (addF r.T (negF (mulF r.gt (addF (mulF (subF (addF b0.vx (mulF (negF r.rb.2) b0.sp)) (addF a.vx (mulF (negF r.ra.2) a.sp))) (negF r.n.2)) (mulF (subF (addF b0.vy (mulF r.rb.1 b0.sp)) (addF a.vy (mulF r.ra.1 a.sp))) r.n.1))))) (negF (mulF r.N 2147483648)) (mulF r.N 2147483648) = rubT L r := by
  unfold rubT; rw [speed_at hi hk0]; rfl
 have e1 : mulF (negF r.n.2) (subF (rubT L r) r.T) = p.1 := by rw [← ep]; rfl
 have e2 : mulF r.n.1 (subF (rubT L r) r.T) = p.2 := by rw [← ep]; rfl
 refine (rub_c r.n.1 r.n.2 r.gt r.N r.T _ _ _ _ _ _ _ _ r.ra.1 r.ra.2 r.rb.1 r.rb.2 _ _ _ _ _ _ _ _ _ _ _ _ _ _ _ _ _ (rubT L r) _ p.1 p.2 _ _ _ _ _ _ _ _ _ _ _ _ _ _ w hgr hL hi hk0 hk hA hB0 hB (c 3 _ rfl) (c 4 _ rfl) (c 10 _ rfl) (c 12 _ rfl) (c 13 _ rfl) (hR.free _)
  hri.ra.1 hri.ra.2 hri.rb.1 hri.rb.2 hri.n.1 hri.n.2 (move_I _) (spin_I _) (move_I _) (spin_I _) hri.gt hri.N hri.T (hid rfl) (hid rfl) (hid rfl) (hid rfl) (hid rfl) (hid rfl) (hid rfl) (hid rfl) (hid rfl) (hid rfl) (hid rfl) (hid rfl) (hid rfl)
  (hid rfl) (hid rfl) (hid rfl) (hid rfl) (hid eT) (hid rfl) (hid e1) (hid e2)
  (hid rfl) (hid rfl) (hid rfl) (hid rfl) (hid rfl) (hid rfl) (hid rfl) (hid rfl) (hid rfl) (hid rfl) (hid rfl) (hid rfl) (hid rfl) (hid rfl)).mono ?_
 rintro e v ⟨rfl, u, rfl, kb, kl⟩
 have h := row_put (x := .int .i64 (rubT L r)) (r' := { r with T := rubT L r }) hgr kl (hR.but kb hgr) hr (j := 13) (by omega) rfl
 exact ⟨rfl, (kb.up (fun b _ h => .inl h)).put (p := ⟨gr, k * 14 + 13, none⟩) (.inl (.inr rfl)) _, h.1, h.2⟩
theorem push_s (hgr : gr ≠ g) (hL : RowL encB 11 w g tB n L) (hR : RowL encR 14 w gr tR m R) (hr : R[k]? = some r) (hI : LI L) (hri : RoI r) (ha : r.a < n) (hb : r.b < n) :
  Calls Tryz.prog 78 #[.agg (encPr gr g (prOf L k r)).toArray] w fun e v => e = .returned (.tuple #[]) ∧ But (fun x => x = g ∨ x = gr) w v ∧ RowL encB 11 v g tB n (pushS L r) ∧ RowL encR 14 v gr tR m (R.set k { r with N := pushN L r }) := by
 obtain ⟨a, hi⟩ : ∃ a, L[r.a]? = some a := ⟨_, List.getElem?_eq_getElem (by rw [hL.1]; exact ha)⟩
 obtain ⟨b0, hk0⟩ : ∃ a, L[r.b]? = some a := ⟨_, List.getElem?_eq_getElem (by rw [hL.1]; exact hb)⟩
 obtain ⟨p, ep⟩ : ∃ p, scaS r.n (subF (pushN L r) r.N) = p := ⟨_, rfl⟩
 obtain ⟨b, hk⟩ : ∃ b, (L.set r.a (awayB r.ra p a))[r.b]? = some b := ⟨_, List.getElem?_eq_getElem (by rw [List.length_set, hL.1]; exact hb)⟩
 have hmb := set_mass hi hk0 hk
 have hA := hI _ _ hi
 have hB0 := hI _ _ hk0
 have hB := set_I hI (away_I hA r.ra p) _ _ hk
 have c := hR.elt hr
 rw [press_cells gr g k hi hk0, hmb.1, hmb.2]
 have e : pushS L r = (L.set r.a (awayB r.ra p a)).set r.b (ontoB r.rb p b) := by unfold pushS; rw [ep]; exact bump_set' hi hk
 rw [e]
 have eN : max 0 (addF r.N (mulF r.gn (subF r.out (addF (mulF (subF (addF b0.vx (mulF (negF r.rb.2) b0.sp)) (addF a.vx (mulF (negF r.ra.2) a.sp))) r.n.1) (mulF (subF (addF b0.vy (mulF r.rb.1 b0.sp)) (addF a.vy (mulF r.ra.1 a.sp))) r.n.2))))) = pushN L r := by
  unfold pushN; rw [speed_at hi hk0]
 have e1 : mulF r.n.1 (subF (pushN L r) r.N) = p.1 := by rw [← ep]; rfl
 have e2 : mulF r.n.2 (subF (pushN L r) r.N) = p.2 := by rw [← ep]; rfl
 refine (push_c r.n.1 r.n.2 r.gn r.out r.N _ _ _ _ _ _ _ _ r.ra.1 r.ra.2 r.rb.1 r.rb.2 _ _ _ _ _ _ _ _ _ _ _ _ _ _ (pushN L r) _ p.1 p.2 _ _ _ _ _ _ _ _ _ _ _ _ _ _ w hgr hL hi hk0 hk hA hB0 hB (c 3 _ rfl) (c 4 _ rfl) (c 9 _ rfl) (c 11 _ rfl) (c 12 _ rfl) (hR.free _)
  hri.ra.1 hri.ra.2 hri.rb.1 hri.rb.2 hri.n.1 hri.n.2 (move_I _) (spin_I _) (move_I _) (spin_I _) hri.gn hri.out hri.N (hid rfl) (hid rfl) (hid rfl) (hid rfl) (hid rfl) (hid rfl) (hid rfl) (hid rfl) (hid rfl) (hid rfl) (hid rfl)
  (hid rfl) (hid rfl) (hid rfl) eN (hid rfl) (hid e1) (hid e2)
  (hid rfl) (hid rfl) (hid rfl) (hid rfl) (hid rfl) (hid rfl) (hid rfl) (hid rfl) (hid rfl) (hid rfl) (hid rfl) (hid rfl) (hid rfl) (hid rfl)).mono ?_
 rintro e v ⟨rfl, u, rfl, kb, kl⟩
 have h := row_put (x := .int .i64 (pushN L r)) (r' := { r with N := pushN L r }) hgr kl (hR.but kb hgr) hr (j := 12) (by omega) rfl
 exact ⟨rfl, (kb.up (fun b _ h => .inl h)).put (p := ⟨gr, k * 14 + 12, none⟩) (.inl (.inr rfl)) _, h.1, h.2⟩
theorem hold_cells (g : Nat) {L : List Bd} {t : Ti} {a b : Bd} (ha : L[t.a]? = some a) (hb : L[t.b]? = some b) : (encHo g (hoOf L t)).toArray = #[.int .i64 (t.a : Nat), .int .i64 (t.b : Nat), .int .i64 t.n.1, .int .i64 t.n.2, .int .i64 t.ra.1, .int .i64 t.ra.2, .int .i64 t.rb.1, .int .i64 t.rb.2, .int .i64 t.g, .int .i64 t.off,
  .pointer (some ⟨g, t.a * 11, none⟩), .pointer (some ⟨g, t.b * 11, none⟩), .int .i64 (mA a), .int .i64 (mI a), .int .i64 (moveB a), .int .i64 (spinB a), .int .i64 (mA b), .int .i64 (mI b), .int .i64 (moveB b), .int .i64 (spinB b), .int .i64 t.ra.1, .int .i64 t.ra.2, .int .i64 t.rb.1, .int .i64 t.rb.2] := by
 unfold encHo hoOf lkOf encL encTi
 simp only
 rw [bdAt_is ha, bdAt_is hb]
 rfl
theorem pull_s {t : Ti} (hL : RowL encB 11 w g tB n L) (hI : LI L) (hti : TiI t) (ha : t.a < n) (hb : t.b < n) :
  Calls Tryz.prog 76 #[.agg (encHo g (hoOf L t)).toArray] w fun e v => e = .returned (.tuple #[]) ∧ But (fun x => x = g) w v ∧ RowL encB 11 v g tB n (pullS L t) := by
 obtain ⟨a, hi⟩ : ∃ a, L[t.a]? = some a := ⟨_, List.getElem?_eq_getElem (by rw [hL.1]; exact ha)⟩
 obtain ⟨b0, hk0⟩ : ∃ a, L[t.b]? = some a := ⟨_, List.getElem?_eq_getElem (by rw [hL.1]; exact hb)⟩
 obtain ⟨p, ep⟩ : ∃ p, scaS t.n (negF (mulF t.g (addF (speedS L t.a t.b t.ra t.rb t.n) t.off))) = p := ⟨_, rfl⟩
 obtain ⟨b, hk⟩ : ∃ b, (L.set t.a (awayB t.ra p a))[t.b]? = some b := ⟨_, List.getElem?_eq_getElem (by rw [List.length_set, hL.1]; exact hb)⟩
 have hmb := set_mass hi hk0 hk
 have hA := hI _ _ hi
 have hB0 := hI _ _ hk0
 have hB := set_I hI (away_I hA t.ra p) _ _ hk
 rw [hold_cells g hi hk0, hmb.1, hmb.2]
 have e : pullS L t = (L.set t.a (awayB t.ra p a)).set t.b (ontoB t.rb p b) := by unfold pullS; rw [ep]; exact bump_set' hi hk
 rw [e]
 have es := speed_at hi hk0 t.ra t.rb t.n
 have e1 : mulF t.n.1 (negF (mulF t.g (addF (speedS L t.a t.b t.ra t.rb t.n) t.off))) = p.1 := by rw [← ep]; rfl
 have e2 : mulF t.n.2 (negF (mulF t.g (addF (speedS L t.a t.b t.ra t.rb t.n) t.off))) = p.2 := by rw [← ep]; rfl
 exact pull_c _ _ t.n.1 t.n.2 t.ra.1 t.ra.2 t.rb.1 t.rb.2 t.g t.off _ _ _ _ _ _ _ _ t.ra.1 t.ra.2 t.rb.1 t.rb.2 _ _ _ _ _ _ _ _ _ _ (speedS L t.a t.b t.ra t.rb t.n) _ _ _ p.1 p.2 _ _ _ _ _ _ _ _ _ _ _ _ _ _ w hL hi hk0 hk hA hB0 hB
  hti.ra.1 hti.ra.2 hti.rb.1 hti.rb.2 hti.n.1 hti.n.2 (move_I _) (spin_I _) (move_I _) (spin_I _) hti.g hti.off (hid rfl) (hid rfl) (hid rfl) (hid rfl) (hid rfl) (hid rfl) (hid rfl) (hid rfl) (hid rfl) (hid rfl) (hid es.symm)
  (hid rfl) (hid rfl) (hid rfl) (hid e1) (hid e2)
  (hid rfl) (hid rfl) (hid rfl) (hid rfl) (hid rfl) (hid rfl) (hid rfl) (hid rfl) (hid rfl) (hid rfl) (hid rfl) (hid rfl) (hid rfl) (hid rfl)
theorem limit_s {b : Bd} (hL : RowL encB 11 w g tB n L) (hI : LI L) (hi : L[k]? = some b) :
  Calls Tryz.prog 79 #[.pointer (some ⟨g, k * 11, none⟩)] w fun e v => e = .returned (.tuple #[]) ∧ But (fun x => x = g) w v ∧ RowL encB 11 v g tB n (L.set k (limitB b)) :=
 limit_c _ _ _ w hL hi (hI _ _ hi) (hid rfl) (hid rfl) (hid rfl)
end
end Go.Proofs.YtcfphdcinihdbaaGreat.Fx
/- Impulses, plainly: what has come behind some rows, ties or bodies. -/
namespace Go.Proofs.YtcfphdcinihdbaaGreat.Fx
set_option linter.unusedVariables false
theorem rows_snoc : ∀ (A : List Ro) (L : List Bd) (r : Ro), rowsS L (A ++ [r]) = ((turnS (rowsS L A).1 r).1, (rowsS L A).2 ++ [(turnS (rowsS L A).1 r).2])
 | [], L, r => rfl
 | q :: A, L, r => by
  have ih := rows_snoc A (turnS L q).1 r
  show ((rowsS (turnS L q).1 (A ++ [r])).1, (turnS L q).2 :: (rowsS (turnS L q).1 (A ++ [r])).2) = _
  rw [ih]
  rfl
theorem take_snoc' {α : Type} {l : List α} {k : Nat} {x : α} (h : l[k]? = some x) : l.take (k + 1) = l.take k ++ [x] := by
 rw [List.take_add_one, h]; rfl
theorem drop_cons' {α : Type} {l : List α} {k : Nat} {x : α} (h : l[k]? = some x) : l.drop k = x :: l.drop (k + 1) := by
 obtain ⟨hl, hx⟩ := List.getElem?_eq_some_iff.1 h
 rw [List.drop_eq_getElem_cons hl, hx]
def rowsAt (L : List Bd) (R : List Ro) (j : Nat) : List Ro := (rowsS L (R.take j)).2 ++ R.drop j
def bodsAt (L : List Bd) (R : List Ro) (j : Nat) : List Bd := (rowsS L (R.take j)).1
theorem rowsAt_len (L : List Bd) (R : List Ro) {j : Nat} (hj : j ≤ R.length) : (rowsS L (R.take j)).2.length = j := by
 rw [rows_len, List.length_take]; omega
theorem rowsAt_get {L : List Bd} {R : List Ro} {j : Nat} {r : Ro} (h : R[j]? = some r) : (rowsAt L R j)[j]? = some r := by
 have hj := (List.getElem?_eq_some_iff.1 h).1
 unfold rowsAt
 rw [List.getElem?_append_right (by rw [rowsAt_len L R (by omega)]; exact Nat.le_refl _), rowsAt_len L R (by omega), Nat.sub_self, drop_cons' h]
 rfl
theorem rowsAt_next {L : List Bd} {R : List Ro} {j : Nat} {r : Ro} (h : R[j]? = some r) : bodsAt L R (j + 1) = (turnS (bodsAt L R j) r).1 ∧ (rowsAt L R j).set j (turnS (bodsAt L R j) r).2 = rowsAt L R (j + 1) := by
 have hj := (List.getElem?_eq_some_iff.1 h).1
 have hl := rowsAt_len L R (Nat.le_of_lt hj)
 unfold bodsAt rowsAt
 rw [take_snoc' h, rows_snoc]
 refine ⟨rfl, ?_⟩
 rw [drop_cons' h, List.set_append_right _ _ (by omega), hl, Nat.sub_self, List.append_assoc]
 rfl
theorem rowsAt_all (L : List Bd) (R : List Ro) {j : Nat} (hj : R.length ≤ j) : bodsAt L R j = (rowsS L R).1 ∧ rowsAt L R j = (rowsS L R).2 := by
 unfold bodsAt rowsAt
 rw [List.take_of_length_le hj, List.drop_eq_nil_of_le hj, List.append_nil]
 exact ⟨rfl, rfl⟩
theorem rowsAt_I {L : List Bd} {R : List Ro} (hL : LI L) (hR : ∀ r ∈ R, RoI r) (j : Nat) : LI (bodsAt L R j) := (rows_I _ hL fun r hr => hR r (List.mem_of_mem_take hr)).1
theorem bodsAt_same (L : List Bd) (R : List Ro) (j : Nat) : SameL L (bodsAt L R j) := rows_same _ _
theorem ties_next {L : List Bd} {T : List Ti} {j : Nat} {t : Ti} (h : T[j]? = some t) : tiesS L (T.take (j + 1)) = pullS (tiesS L (T.take j)) t := by
 rw [take_snoc' h]; unfold tiesS; rw [List.foldl_append]; rfl
theorem begin_next {L : List Bd} {R : List Ro} {j : Nat} {r : Ro} (h : R[j]? = some r) : (R.take (j + 1)).foldl beginS L = beginS ((R.take j).foldl beginS L) r := by
 rw [take_snoc' h, List.foldl_append]; rfl
def limAt (L : List Bd) (j : Nat) : List Bd := (L.take j).map limitB ++ L.drop j
theorem limAt_get {L : List Bd} {j : Nat} {b : Bd} (h : L[j]? = some b) : (limAt L j)[j]? = some b := by
 have hj := (List.getElem?_eq_some_iff.1 h).1
 have hl : ((L.take j).map limitB).length = j := by rw [List.length_map, List.length_take]; omega
 unfold limAt
 rw [List.getElem?_append_right (by omega), hl, Nat.sub_self, drop_cons' h]
 rfl
theorem limAt_next {L : List Bd} {j : Nat} {b : Bd} (h : L[j]? = some b) : (limAt L j).set j (limitB b) = limAt L (j + 1) := by
 have hj := (List.getElem?_eq_some_iff.1 h).1
 have hl : ((L.take j).map limitB).length = j := by rw [List.length_map, List.length_take]; omega
 unfold limAt
 rw [drop_cons' h, List.set_append_right _ _ (by omega), hl, Nat.sub_self, take_snoc' h, List.map_append, List.append_assoc]
 rfl
theorem limAt_all {L : List Bd} {j : Nat} (h : L.length ≤ j) : limAt L j = L.map limitB := by
 unfold limAt
 rw [List.take_of_length_le h, List.drop_eq_nil_of_le h, List.append_nil]
theorem limit_I {b : Bd} (h : BdI b) : BdI (limitB b) := ⟨h.id, h.x, h.y, i64_bring h.vx (i64_neg (by unfold I64; omega)) (by unfold I64; omega), i64_bring h.vy (i64_neg (by unfold I64; omega)) (by unfold I64; omega), h.an, i64_bring h.sp (by unfold I64; omega) (by unfold I64; omega), h.de, h.k, h.r, h.f⟩
theorem limAt_I {L : List Bd} (h : LI L) (j : Nat) : LI (limAt L j) := by
 intro i b hb
 unfold limAt at hb
 rw [List.getElem?_append] at hb
 split at hb
 ·rw [List.getElem?_map] at hb
  cases e : (L.take j)[i]? with
  | none => rw [e] at hb; simp at hb
  | some c =>
   rw [e] at hb
   rw [← Option.some.inj hb]
   rw [List.getElem?_take] at e
   split at e
   ·exact limit_I (h i c e)
   ·cases e
 ·rw [List.getElem?_drop] at hb
  exact h _ b hb
theorem SameB.bdI {b b' : Bd} (h : SameB b b') (k : BdI b) : BdI b' := by
 obtain ⟨h0, h1, h2, h3, h4, h5, h6, h7, h8, h9, h10, h11⟩ := h
 obtain ⟨k0, k1, k2, k3, k4, k5, k6, k7, k8, k9, k10⟩ := k
 exact ⟨by rw [h0]; exact k0, by rw [h1]; exact k1, by rw [h2]; exact k2, by rw [h3]; exact k3, by rw [h4]; exact k4, by rw [h5]; exact k5, by rw [h6]; exact k6, by rw [h7]; exact k7, by rw [h8]; exact k8, by rw [h9]; exact k9, by rw [h10, h11]; exact k10⟩
end Go.Proofs.YtcfphdcinihdbaaGreat.Fx