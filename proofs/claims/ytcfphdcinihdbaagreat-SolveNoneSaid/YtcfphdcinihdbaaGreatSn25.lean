/- SoU Mky -/
import Derived.Test.YtcfphdcinihdbaaGreatSn6
import Derived.Test.YtcfphdcinihdbaaGreatSn24
set_option maxRecDepth 100000
set_option maxHeartbeats 64000000
/- Package solve: the rows of pairs of bodies. -/
namespace Go.Proofs.YtcfphdcinihdbaaGreat.Fx
open Go.ChangeShapes Go.WideShapes Go.ChangeAt Go.RowKit
set_option linter.unusedVariables false
def PairR (tt : Bd → Bd → Option Tch) (C : List Ct) (L : List Bd) (p : Int × Int) (R : List Ro) : Prop :=
 (∃ i k a b, L[i]? = some a ∧ L[k]? = some b ∧ a.id = p.1 ∧ b.id = p.2 ∧ RowsOf C i k a b ((tt a b).getD noTch).nx ((tt a b).getD noTch).ny ((tt a b).getD noTch).pts R) ∨ (R = [] ∧ ((∀ x ∈ L, x.id ≠ p.1) ∨ ∀ x ∈ L, x.id ≠ p.2))
inductive RowsR (tt : Bd → Bd → Option Tch) (C : List Ct) (L : List Bd) : List (Int × Int) → List Ro → Prop
 | nil : RowsR tt C L [] []
 | snoc {ps p R R'} : RowsR tt C L ps R → PairR tt C L p R' → RowsR tt C L (ps ++ [p]) (R ++ R')
theorem id_at_so {B : List Bd} (hup : (B.map (·.id)).Pairwise (· < ·)) {i j : Nat} {x y : Bd} (hx : B[i]? = some x) (hy : B[j]? = some y) (e : x.id = y.id) : i = j := by
 rcases Nat.lt_trichotomy i j with h | h | h
 ·have := List.pairwise_iff_getElem.1 hup i j (by simpa using (List.getElem?_eq_some_iff.1 hx).1) (by simpa using (List.getElem?_eq_some_iff.1 hy).1) h
  simp [(List.getElem?_eq_some_iff.1 hx).2, (List.getElem?_eq_some_iff.1 hy).2] at this
  omega
 ·exact h
 ·have := List.pairwise_iff_getElem.1 hup j i (by simpa using (List.getElem?_eq_some_iff.1 hy).1) (by simpa using (List.getElem?_eq_some_iff.1 hx).1) h
  simp [(List.getElem?_eq_some_iff.1 hx).2, (List.getElem?_eq_some_iff.1 hy).2] at this
  omega
theorem wbody_so (tk nb nj gx gy : Int) (oj oc : Option Addr) (nn cj nc cc : Nat) {l : List Bd} {ao : Option Addr} {n c : Nat} (id : Int) (hn : l.length = n) (hmx : n ≤ 1073741824) (hup : (l.map (·.id)).Pairwise (· < ·)) :
  ∃ (i : Nat) (r : Bool), (r = true → ∃ x, l[i]? = some x ∧ x.id = id) ∧ (r = false → ∀ x ∈ l, x.id ≠ id) ∧ ∀ w, LsT encB 11 w ao l → Calls Tryz.prog 13 #[wdV tk nb nj gx gy (.slice ao n c) (.slice oj nn cj) (.slice oc nc cc), .int .i64 id] w fun e v => e = .returned (.tuple #[.int .i64 (i : Nat), .bool r]) ∧ Made w.heap.size w v := by
 by_cases h : ∃ x ∈ l, x.id = id
 ·obtain ⟨x, hx, e⟩ := h
  obtain ⟨i, hi⟩ := List.mem_iff_getElem?.1 hx
  refine ⟨i, true, fun _ => ⟨x, hi, e⟩, fun h => (by cases h), fun w hl => (wbody_c tk nb nj gx gy oj oc nn cj nc cc (c := c) id hn hmx hl hup).mono ?_⟩
  rintro e' v ⟨i', r', rfl, k, h1, h2⟩
  cases r' with
  | false => exact absurd e ((h2 rfl).2 x hx)
  | true =>
   obtain ⟨y, hy, ey⟩ := h1 rfl
   have : i' = i := id_at_so hup hy hi (ey.trans e.symm)
   subst this
   exact ⟨rfl, k⟩
 ·refine ⟨0, false, fun h => (by cases h), fun _ x hx e => h ⟨x, hx, e⟩, fun w hl => (wbody_c tk nb nj gx gy oj oc nn cj nc cc (c := c) id hn hmx hl hup).mono ?_⟩
  rintro e' v ⟨i', r', rfl, k, h1, h2⟩
  cases r' with
  | false =>
   have := (h2 rfl).1
   subst this
   exact ⟨rfl, k⟩
  | true =>
   obtain ⟨y, hy, ey⟩ := h1 rfl
   exact absurd ⟨y, List.mem_of_getElem? hy, ey⟩ h
theorem so_append_none {P : Program} (w : World) (base : Nat) (t ty e : TypeId) (i : TypeInfo) (size : Nat) (ht : P.underlying t = some (.slice e)) (hi : P.info? e = some i) (v : Value) (n : Nat) (xs : List Value) (hown : w.ownsRow base e size v n xs) (ao : Option Addr) (c : Nat) :
  (Builtin.append_ #[t, t] ty #[v, .slice ao 0 c]).run P w = .ok v w := by
 have hf : (Builtin.firstCells i.size 0 (.slice ao 0 c)).run P w = .ok #[] w := by
  cases ao with
  | none => simp [Builtin.firstCells, Sem.run_pure]
  | some a => exact run_firstCells_some w i.size 0 a 0 c [] (by simp) (by simp)
 rcases hown.2 with ⟨rfl, rfl⟩ | ⟨g, cap, cur, rfl, _, _, hnc, _⟩
 ·simp [Builtin.append_, run_underlying ht, sizeOf, typeInfo, hi, Builtin.lenOf, hf]
 ·simp [Builtin.append_, run_underlying ht, sizeOf, typeInfo, hi, Builtin.lenOf, hf, hnc, storeCells]
theorem so_wp_append_none {P : Program} {ops : Array Oper} {rest : List Oper} {o : Oper} {a : Act} {w : World} {Q : Exit → Act → World → Prop} (hgd : o.guard = none) (s x : Operand) (t : TypeId) (ho : o.op = .call { callee := .builtin .append, args := #[s, x], argTypes := #[t, t] }) (v' : Value)
  (hr : ∀ ty, (Builtin.append_ #[t, t] ty #[a.eval s, a.eval x]).run P w = .ok v' w) (h : wpList P ops Q rest (a.put o.dst v') w) : wpList P ops Q (o :: rest) a w := by
 refine wpList_plain hgd fun _ hK => ?_
 unfold Oper.wp execOp
 simp only [ho, resolve, invoke, builtin, Sem.run_bind, Sem.run_pure, Result.andThen_ok, List.map_toArray, List.map_cons, List.map_nil, hr]
 exact hK _ _ h
theorem rows_c (tt : Bd → Bd → Option Tch) {tk nb nj gx gy : Int} {L : List Bd} {C : List Ct} {Ps : List (Int × Int)} {ao op oj oc : Option Addr} {n cb nj' cj nc cc np cp : Nat} {w : World}
  (hn : L.length = n) (hl : LsT encB 11 w ao L) (ho : SlOk ao n cb) (hI : ∀ b ∈ L, BdI b) (hP : ∀ b ∈ L, BodyP b) (hS : ∀ b ∈ L, Sl w b.ao b.n b.f) (hmx : n ≤ 1073741824) (hup : (L.map (·.id)).Pairwise (· < ·))
  (hC : LsT encC 5 w oc C) (hnc : C.length = nc) (hncx : nc ≤ 1073741824) (hupC : C.Pairwise LtC) (hCI : ∀ c ∈ C, CtI c)
  (hp : LsT encP 2 w op Ps) (hnp : Ps.length = np) (hnpx : np ≤ 1048576)
  (hT : 0 < np → ∀ a ∈ L, ∀ b ∈ L, ∀ v, Below w.heap.size w v → Calls Tryz.prog 92 #[bdV a, bdV b] v (TouchQ (tt a b) v))
  (hTI : 0 < np → ∀ a ∈ L, ∀ b ∈ L, I64 ((tt a b).getD noTch).nx ∧ I64 ((tt a b).getD noTch).ny ∧ ((tt a b).getD noTch).pts.length ≤ 1024 ∧ ∀ p ∈ ((tt a b).getD noTch).pts, I64 p.x ∧ I64 p.y ∧ I64 p.d ∧ I64 p.k) :
  Calls Tryz.prog 11 #[.agg #[.int .i64 tk, .int .i64 nb, .int .i64 nj, .int .i64 gx, .int .i64 gy, .slice ao n cb, .slice oj nj' cj, .slice oc nc cc], .slice op np cp] w fun e v => ∃ orr cr R, e = .returned (.slice orr R.length cr) ∧ RowsR tt C L Ps R ∧ v.ownsRow w.heap.size 56 14 (.slice orr R.length cr) R.length (flatE encR R) ∧ Below w.heap.size w v := by
 obtain ⟨W0, eW⟩ : ∃ W, W = w.alloc (.cells #[.int .i64 tk, .int .i64 nb, .int .i64 nj, .int .i64 gx, .int .i64 gy, .slice ao n cb, .slice oj nj' cj, .slice oc nc cc] 32) := ⟨_, rfl⟩
 have hW0 : Has W0 w.heap.size 32 #[.int .i64 tk, .int .i64 nb, .int .i64 nj, .int .i64 gx, .int .i64 gy, .slice ao n cb, .slice oj nj' cj, .slice oc nc cc] := by rw [eW]; exact has_new _ _ _
 have m0 : Made w.heap.size w W0 := by rw [eW]; exact (Made.rfl_ _ _).cells (Nat.le_refl _) _ _
 have c5 : W0.cell? ⟨w.heap.size, 5, none⟩ = some (.slice ao n cb) := by rw [hW0.at_]; rfl
 have HWE := hid (weighed_c (w := W0) hn (hl.below m0.1) ho hI hP (fun b hb => Sl.blw (hS b hb) m0.1) hmx)
 obtain ⟨g0, eg0⟩ : ∃ g, w.heap.size = g := ⟨_, rfl⟩
 have HW0 := hid hW0
 have M0 := hid m0
 rw [eg0] at HW0 c5
 go_enter Tryz.func11, Tryz.ntmps11
 go_upto_region 1 with fail
 rw [← eW]
 try rw [eg0]
 clear eW
 go_wp2_with fail
 refine HWE.out.mono ?_
 rintro e w1 ⟨om, cm, rfl, k1, hmass⟩
 obtain ⟨W2, eW2⟩ : ∃ W, W = w1.alloc (.cells #[.slice ao n cb, .slice om n cm] 97) := ⟨_, rfl⟩
 obtain ⟨gc, egc⟩ : ∃ g, w1.heap.size = g := ⟨_, rfl⟩
 have kk2 : Below W0.heap.size W0 W2 := k1.trans (by rw [eW2]; exact ((Made.rfl_ _ _).cells (Nat.le_refl _) _ _).1.mono k1.size)
 have HW2 : Hid (Has W2 g0 32 #[.int .i64 tk, .int .i64 nb, .int .i64 nj, .int .i64 gx, .int .i64 gy, .slice ao n cb, .slice oj nj' cj, .slice oc nc cc]) := HW0.out.below kk2 HW0.out.here
 have HC2 : Hid (Has W2 gc 97 #[.slice ao n cb, .slice om n cm]) := by unfold Hid; rw [eW2, ← egc]; exact has_new _ _ _
 have BW2 : Hid (Below w.heap.size w W2) := m0.1.trans (kk2.mono m0.1.size)
 have HL2 : Hid (LsT encB 11 W2 ao L) := hl.below BW2.out
 have HCt2 : Hid (LsT encC 5 W2 oc C) := hC.below BW2.out
 have HPs2 : Hid (LsT encP 2 W2 op Ps) := hp.below BW2.out
 have HM2 : Hid (0 < n → ∃ gm, om = some ⟨gm, 0, none⟩ ∧ gm < W2.heap.size ∧ LsB encM 4 W2 gm 0 L) := fun h0 => by
  obtain ⟨gm, cm', em, _, _, _, hrm⟩ := RowL.of_own encM_len hn hmass h0
  cases em
  have h2 : RowL encM 4 W2 gm _ n L := RowL.stays hrm (B := w1.heap.size) (by rw [eW2]; exact (Made.rfl_ _ _).cells (Nat.le_refl _) _ _) hrm.here
  exact ⟨gm, rfl, h2.here, h2.lsB⟩
 have HBody : Hid (∀ id, _) := fun id => wbody_so tk nb nj gx gy oj oc nj' cj nc cc (c := cb) id hn hmx hup (ao := ao)
 have HT2 := hid (fun (h0 : 0 < np) (a b : Bd) (ha : a ∈ L) (hb : b ∈ L) v (k : Made W2.heap.size W2 v) => hT h0 a ha b hb v (BW2.out.trans (k.1.mono BW2.out.size)))
 have HTI := hid hTI; have HI := hid hI; have HCI := hid hCI; have HNC := hid hnc; have HUC := hid hupC; have HN := hid hn; have HNP := hid hnp
 obtain ⟨iO, hiO, hz0, hz1, hz2⟩ := info_parts infoRo
 have iHi := hid hiO; have iH0 := hid hz0; have iH1 := hid hz1; have iH2 := hid hz2
 have lwB : w.heap.size ≤ W2.heap.size := BW2.out.size
 obtain ⟨B1, eB1⟩ : ∃ B, W2.heap.size = B := ⟨_, rfl⟩
 have EB1 := hid eB1
 have l0 : g0 < B1 := by rw [← eB1]; exact HW2.out.here
 have lc : gc < B1 := by rw [← eB1]; exact HC2.out.here
 rw [eB1] at lwB
 clear hn hl ho hI hP hS hup hC hnc hupC hCI hp hnp hT hTI hW0 m0 c5 HWE HW0 M0 k1 hmass kk2 hiO hz0 hz1 hz2 eB1
 have hszW : (Tryz.prog.info? 32).map (·.size) = some 8 := by kernel_rfl
 have hszC : (Tryz.prog.info? 97).map (·.size) = some 2 := by kernel_rfl
 go_upto_region 3 with fail
 try rw [← eW2]
 try rw [egc]
 clear eW2 egc
 go_wp2_with fail
 go_loopg [6, 18] np (fun gg s6 s18 wx => ∃ j : Nat, j + gg = np ∧ s18 = .int .i64 (j : Nat) ∧ (∃ orr mr cr, s6 = .slice orr mr cr ∧ mr ≤ 1024 * j ∧ Hid (∃ R, R.length = mr ∧ RowsR tt C L (Ps.take j) R ∧ wx.ownsRow B1 56 14 (.slice orr mr cr) mr (flatE encR R))) ∧ Hid (Made B1 W2 wx))
 case atStart => exact ⟨0, by omega, by first | rfl | trivial, ⟨none, 0, 0, rfl, by omega, ⟨[], rfl, RowsR.nil, World.ownsRow_nil _ _ _ _⟩⟩, Made.rfl_ _ _⟩
 case round =>
  obtain ⟨j, hj, rfl, ⟨orr, mr, cr, rfl, hmr, HO⟩, HM⟩ := hrel
  by_cases hjn : j < np
  ·obtain ⟨p, hpj⟩ : ∃ p, Ps[j]? = some p := ⟨_, List.getElem?_eq_getElem (by rw [HNP.out]; exact hjn)⟩
   have HMk : Hid (Made W2.heap.size W2 wr) := by unfold Hid; rw [EB1.out]; exact HM.out
   obtain ⟨bp, offp, eap, hbp, hpc⟩ := HPs2.out (by rw [HNP.out]; omega)
   cases eap
   have q := hpc j p hpj
   have HPj := hid hpj
   obtain ⟨p1, p2⟩ := p
   have q0 : W2.cell? ⟨bp, offp + j * 2, none⟩ = some (.int .i64 p1) := q 0 _ rfl
   have q1 : W2.cell? ⟨bp, offp + j * 2 + 1, none⟩ = some (.int .i64 p2) := q 1 _ rfl
   obtain ⟨og, eog⟩ : ∃ o, offp + j * 2 = o := ⟨_, rfl⟩
   rw [eog] at q0 q1
   have q0 := HMk.out.reads q0
   have q1 := HMk.out.reads q1
   obtain ⟨i1, r1, h1t, h1f, h1c⟩ := HBody.out p1
   obtain ⟨i2, r2, h2t, h2f, h2c⟩ := HBody.out p2
   have H1T := hid h1t; have H1F := hid h1f; have H1C := hid h1c
   have H2T := hid h2t; have H2F := hid h2f; have H2C := hid h2c
   clear h1t h1f h1c h2t h2f h2c q hpc hpj hbp
   go_upto_region 6 with fail
   obtain ⟨W6, e6⟩ : ∃ W, W = wr.alloc (.cells #[.int .i64 p1, .int .i64 p2] 38) := ⟨_, rfl⟩
   obtain ⟨gp, egp⟩ : ∃ g, wr.heap.size = g := ⟨_, rfl⟩
   have k6 : Made wr.heap.size wr W6 := by rw [e6]; exact (Made.rfl_ _ _).cells (Nat.le_refl _) _ _
   have HV6 : Hid (Has W6 gp 38 #[.int .i64 p1, .int .i64 p2]) := by unfold Hid; rw [e6, ← egp]; exact has_new _ _ _
   have M6 : Hid (Made W2.heap.size W2 W6) := HMk.out.then_ (k6.low HMk.out.1.size)
   have HO6 : Hid (∃ R, R.length = mr ∧ RowsR tt C L (Ps.take j) R ∧ W6.ownsRow B1 56 14 (.slice orr mr cr) mr (flatE encR R)) := by
    obtain ⟨R, h0, h1, h2⟩ := HO.out
    exact ⟨R, h0, h1, own_stays h2 k6⟩
   try rw [← e6]
   try rw [egp]
   clear e6 egp k6 q0 q1 HO HM HMk
   -- region 6
   have v0 : W6.cell? ⟨gp, 0, none⟩ = some (.int .i64 p1) := HV6.out.at_ 0
   have HWx := hid (HW2.out.stays M6.out HW2.out.here)
   have HLx := hid (H1C.out W6 (HL2.out.kept M6.out))
   go_wp2_with (refine wpList_load_row rfl 32 (.tmp 2) rfl g0 rfl 32 _ (0, 0) _ HWx.out Tryz.underlying32 rfl hszW ?_)
   refine HLx.out.mono ?_
   rintro e v7 ⟨rfl, k7⟩
   have HV7 := hid (HV6.out.stays k7 HV6.out.here)
   have M7 : Hid (Made W2.heap.size W2 v7) := M6.out.then_ (k7.low M6.out.1.size)
   have HO7 : Hid (∃ R, R.length = mr ∧ RowsR tt C L (Ps.take j) R ∧ v7.ownsRow B1 56 14 (.slice orr mr cr) mr (flatE encR R)) := by
    obtain ⟨R, h0, h1, h2⟩ := HO6.out
    exact ⟨R, h0, h1, own_stays h2 k7⟩
   clear k7 v0 HWx HLx HV6 M6 HO6
   have v1 : v7.cell? ⟨gp, 1, none⟩ = some (.int .i64 p2) := HV7.out.at_ 1
   have HWx := hid (HW2.out.stays M7.out HW2.out.here)
   have HLx := hid (H2C.out v7 (HL2.out.kept M7.out))
   go_wp2_with (refine wpList_load_row rfl 32 (.tmp 2) rfl g0 rfl 32 _ (0, 0) _ HWx.out Tryz.underlying32 rfl hszW ?_)
   refine HLx.out.mono ?_
   rintro e v8 ⟨rfl, k8⟩
   have M8 : Hid (Made W2.heap.size W2 v8) := M7.out.then_ (k8.low M7.out.1.size)
   have HO8 : Hid (∃ R, R.length = mr ∧ RowsR tt C L (Ps.take j) R ∧ v8.ownsRow B1 56 14 (.slice orr mr cr) mr (flatE encR R)) := by
    obtain ⟨R, h0, h1, h2⟩ := HO7.out
    exact ⟨R, h0, h1, own_stays h2 k8⟩
   clear k8 v1 HWx HLx HV7 M7 HO7
   by_cases hr : r1 = true ∧ r2 = true
   ·obtain ⟨rfl, rfl⟩ := hr
    obtain ⟨a, ha, eai⟩ := H1T.out rfl
    obtain ⟨b, hb, ebi⟩ := H2T.out rfl
    have ham := List.mem_of_getElem? ha
    have hbm := List.mem_of_getElem? hb
    have hL0 : 0 < L.length := List.length_pos_of_mem ham
    have hi1 : i1 < n := by rw [← HN.out]; exact (List.getElem?_eq_some_iff.1 ha).1
    have hi2 : i2 < n := by rw [← HN.out]; exact (List.getElem?_eq_some_iff.1 hb).1
    obtain ⟨gb, ob, rfl, hgb, hLB⟩ := HL2.out hL0
    obtain ⟨gm, rfl, hgm, hMB⟩ := HM2.out (by omega)
    have HBT := hid (between_c (tk := tk) (nb := nb) (nj := nj) (gx := gx) (gy := gy) (cb := cb) (cm := cm) (nj' := nj') (cj := cj) (cc := cc) (oj := oj) (w := v8) (hLB.below M8.out.1 hgb) (Nat.lt_of_lt_of_le hgb M8.out.1.size) (hMB.below M8.out.1 hgm) (Nat.lt_of_lt_of_le hgm M8.out.1.size) ha hb hi1 hi2 (HI.out a ham) (HI.out b hbm) (HCt2.out.kept M8.out) HNC.out hncx HUC.out (fun v k => HT2.out (by omega) a b ham hbm v (M8.out.then_ (k.low M8.out.1.size))) (HTI.out (by omega) a ham b hbm) HCI.out)
    have hm1 := (HTI.out (by omega) a ham b hbm).2.2.1
    have HPR : Hid (∀ R', RowsOf C i1 i2 a b ((tt a b).getD noTch).nx ((tt a b).getD noTch).ny ((tt a b).getD noTch).pts R' → PairR tt C L (p1, p2) R') := fun R' h => .inl ⟨i1, i2, a, b, ha, hb, eai, ebi, h⟩
    obtain ⟨m, em⟩ : ∃ x, ((tt a b).getD noTch).pts.length = x := ⟨_, rfl⟩
    rw [em] at HBT hm1
    have EM := hid em
    clear ha hb eai ebi ham hbm hL0 hLB hMB em hgb hgm
    have HWx := hid (HW2.out.stays M8.out HW2.out.here)
    have HCx := hid (HC2.out.stays M8.out HC2.out.here)
    go_wp2_with (first
     | refine wpList_load_row rfl 32 (.tmp 2) rfl g0 rfl 32 _ (0, 0) _ HWx.out Tryz.underlying32 rfl hszW ?_
     | refine wpList_load_row rfl 97 (.tmp 5) rfl gc rfl 97 _ (0, 0) _ HCx.out Tryz.underlying97 rfl hszC ?_)
    refine HBT.out.mono ?_
    rintro e v9 ⟨or9, cr9, R9, rfl, hR9, hw9, k9⟩
    have HPR9 := hid (HPR.out R9 hR9)
    have HR9 : Hid (R9.length = m) := hR9.1.trans EM.out
    have M9 : Hid (Made W2.heap.size W2 v9) := M8.out.then_ (k9.low M8.out.1.size)
    obtain ⟨R, h0, h1, h2⟩ := HO8.out
    have HO9 := hid (own_stays h2 k9)
    have H0 := hid h0; have H1 := hid h1
    have HW9 := hid hw9
    clear h0 h1 h2 hR9 hw9 k9 HO8 M8 HWx HCx HPR HBT
    by_cases hm0 : m = 0
    ·subst hm0
     have e0 : R9 = [] := List.length_eq_zero_iff.1 HR9.out
     subst e0
     go_wp2_with (at_builtin; refine so_wp_append_none rfl (.tmp 40) (.tmp 45) 34 rfl (.slice orr mr cr) (fun ty => so_append_none _ B1 34 ty 56 iO 14 Tryz.underlying34 iHi.out _ mr _ HO9.out or9 cr9) ?_)
     go_roundg (np - (j + 1))
     case measure => omega
     case rel => exact ⟨j + 1, by omega, by go_num, ⟨orr, mr, cr, rfl, by omega, ⟨R, H0.out, by have h := H1.out.snoc HPR9.out; rw [List.append_nil] at h; rw [take_snoc HPj.out]; exact h, HO9.out⟩⟩, by have := M9.out; rw [EB1.out] at this; exact this⟩
    ·obtain ⟨gq, cq, eq, hq1, hq2, hq3, hrow⟩ := RowL.of_own encR_len HR9.out HW9.out (by omega)
     cases eq
     have HNW : Hid (∀ jj u, (flatE encR R9)[jj]? = some u → v9.cell? ((⟨gq, 0, none⟩ : Addr).add jj) = some u) := LsB.newsL encR_len hrow.lsB
     have HLN : Hid ((flatE encR R9).length = m * 14) := by unfold Hid; rw [flatE_len encR_len, HR9.out]
     have HE1 : Hid (∀ u ∈ flatE encR R9, u.oneCell' = true) := flatE_one encR_one R9
     have hsz9 : B1 ≤ v9.heap.size := by have := M9.out.1.size; have := EB1.out; omega
     clear hrow hq1 HW9
     go_wp2_with (at_builtin; refine wpList_append_at rfl (.tmp 40) (.tmp 45) 34 rfl B1 56 iO (.agg #[.int .i64 0, .int .i64 0, .int .i64 0, .int .i64 0, .int .i64 0, .int .i64 0, .int .i64 0, .int .i64 0, .int .i64 0, .int .i64 0, .int .i64 0, .int .i64 0, .int .i64 0, .int .i64 0]) 14 112 Tryz.underlying34 iHi.out iH0.out iH1.out iH2.out rfl (by decide) (.slice orr mr cr) mr (flatE encR R) rfl HO9.out ⟨gq, 0, none⟩ m cr9 (flatE encR R9) rfl HLN.out HNW.out HE1.out (by unfold maxLen; omega) (by omega) hsz9 (by omega) ?_)
     intro v6 w6 hown hbt hnx
     have M10 : Hid (Made B1 W2 w6) := But.made_ (by have := M9.out; rw [EB1.out] at this; exact this) hbt hsz9 (fun b hb => by have := (HO9.out.lt b hb.symm).1; omega)
     rw [flatE_append] at hown
     obtain ⟨om6, cm6, rfl⟩ : ∃ o c, v6 = .slice o (mr + m) c := by
      rcases hown.2 with ⟨_, h⟩ | ⟨g, cap, cur, e, _⟩
      ·omega
      ·exact ⟨_, _, e⟩
     have HO10 : Hid (∃ R, R.length = mr + m ∧ RowsR tt C L (Ps.take (j + 1)) R ∧ w6.ownsRow B1 56 14 (.slice om6 (mr + m) cm6) (mr + m) (flatE encR R)) := ⟨R ++ R9, by rw [List.length_append, H0.out, HR9.out], by rw [take_snoc HPj.out]; exact H1.out.snoc HPR9.out, hown⟩
     clear hown hbt hnx HO9 HNW HLN HE1
     go_wp2_with fail
     go_roundg (np - (j + 1))
     case measure => omega
     case rel => exact ⟨j + 1, by omega, by go_num, ⟨om6, mr + m, cm6, rfl, by omega, HO10.out⟩, M10.out⟩
   ·have HO10 : Hid (∃ R, R.length = mr ∧ RowsR tt C L (Ps.take (j + 1)) R ∧ v8.ownsRow B1 56 14 (.slice orr mr cr) mr (flatE encR R)) := by
     obtain ⟨R, h0, h1, h2⟩ := HO8.out
     refine ⟨R, h0, ?_, h2⟩
     rw [take_snoc HPj.out]
     have h := h1.snoc (p := (p1, p2)) (R' := []) (.inr ⟨rfl, by
      cases r1 with
      | false => exact .inl (H1F.out rfl)
      | true => cases r2 with
       | false => exact .inr (H2F.out rfl)
       | true => exact absurd ⟨rfl, rfl⟩ hr⟩)
     rwa [List.append_nil] at h
    have M10 : Hid (Made B1 W2 v8) := by have := M8.out; rw [EB1.out] at this; exact this
    clear HO8 M8
    cases r1
    ·go_wp2_with fail
     go_roundg (np - (j + 1))
     case measure => omega
     case rel => exact ⟨j + 1, by omega, by go_num, ⟨orr, mr, cr, rfl, by omega, HO10.out⟩, M10.out⟩
    ·cases r2
     ·go_wp2_with fail
      go_roundg (np - (j + 1))
      case measure => omega
      case rel => exact ⟨j + 1, by omega, by go_num, ⟨orr, mr, cr, rfl, by omega, HO10.out⟩, M10.out⟩
     ·exact absurd ⟨rfl, rfl⟩ hr
  ·have e : j = np := by omega
   subst e
   go_wp2_with fail
   go_ret
   obtain ⟨R, h0, h1, h2⟩ := HO.out
   rw [List.take_of_length_le (by rw [HNP.out]; exact Nat.le_refl _)] at h1
   subst h0
   refine ⟨orr, cr, R, rfl, h1, own_low h2 lwB, BW2.out.trans ?_⟩
   exact HM.out.1.mono lwB
end Go.Proofs.YtcfphdcinihdbaaGreat.Fx
/- Regions that draw their order: quiet operations and makings in any order that the text gives, later ones on the answers of earlier ones, and pure ones that come up late; then the others, in one order alone. -/
namespace Go.Proofs.YtcfphdcinihdbaaGreat.Fx.MY
open Go.ChangeShapes Go.WideShapes Go.ChangeAt Go.RowKit
set_option linter.unusedVariables false
def waitB (md : Region.Mode) (ops : Array Oper) (k : Nat) (ps : List Nat) : Bool := (List.range k).all fun i => ps.contains i || Region.waitsFor md ops k i || ((List.range k).any fun j => Region.waitsFor md ops k j && Region.waitsFor md ops j i) || (down md ops 24 ((List.range k).filter fun j => Region.waitsFor md ops k j)).contains i
section
variable {P : Program} {ops : Array Oper} {md : Region.Mode}
theorem ready_last {k i : Nat} {ps : List Nat} {got : Array Bool} (hw : waitB md ops k ps = true) (inv : HeadInv md ops k got) (hj : k ∈ Region.ready md ops got) (hi : i < k) (hun : got.getD i true = false) : i ∈ ps := by
 have h1 := List.all_eq_true.1 hw i (List.mem_range.2 hi)
 simp only [Bool.or_eq_true, List.contains_iff_mem] at h1
 obtain ⟨_, ot, hot, hall⟩ := mem_ready.1 hj
 have direct : ∀ j, Region.waitsFor md ops k j = true → got.getD j false = true := fun j h => by
  obtain ⟨o', ho', e, he, hb, hon⟩ := Region.waitsFor_spec h
  have e1 : o' = ot := Option.some.inj (ho'.symm.trans hot)
  subst e1
  rw [← hon]
  exact hall e he hb
 have no : got.getD i false = true → False := fun h => by rw [getD_both hun] at h; cases h
 rcases h1 with ((h1 | h1) | h1) | h1
 ·exact h1
 ·exact (no (direct i h1)).elim
 ·obtain ⟨j, _, h2⟩ := List.any_eq_true.1 h1
  simp only [Bool.and_eq_true] at h2
  obtain ⟨o', ho', e, he, hb, hon⟩ := Region.waitsFor_spec h2.2
  refine (no ?_).elim
  rw [← hon]
  exact inv.closed j o' ho' (direct j h2.1) e he hb
 ·exact (no (down_got inv 24 _ (fun j hj => direct j (List.mem_filter.1 hj).2) i (h1))).elim
end
structure Ex where
 hi : Nat
 v : Value
instance : OfNat Ex 0 := ⟨⟨0, .bool false⟩⟩
def upd (G : Nat → Option (Nat × Ex)) (i : Nat) (t : Nat × Ex) : Nat → Option (Nat × Ex) := fun x => if x = i then some t else G x
theorem upd_comm (G : Nat → Option (Nat × Ex)) {i j : Nat} (h : i ≠ j) (g k : Nat × Ex) : upd (upd G i g) j k = upd (upd G j k) i g := by
 funext x; unfold upd
 by_cases h1 : x = i
 ·have h2 : ¬ x = j := fun e => h (h1.symm.trans e)
  simp [h1, h]
 ·simp [h1]
def Cm (w : World) (al : Nat → World → Nat → Ex → Prop) (G : Nat → Option (Nat × Ex)) (v : World) : Prop :=
 Made w.heap.size w v ∧ (∀ i t, G i = some t → w.heap.size ≤ t.1 ∧ t.1 ≤ t.2.hi ∧ t.2.hi ≤ v.heap.size ∧ al i v t.1 t.2) ∧ (∀ i j t u, G i = some t → G j = some u → i ≠ j → t.2.hi ≤ u.1 ∨ u.2.hi ≤ t.1)
def Lasts (al : Nat → World → Nat → Ex → Prop) : Prop := ∀ i u v g e, al i u g e → e.hi ≤ u.heap.size → Made u.heap.size u v → al i v g e
theorem Cm.step {w : World} {al : Nat → World → Nat → Ex → Prop} {G : Nat → Option (Nat × Ex)} (hst : Lasts al) {u v : World} (h : Cm w al G u) (k : Made u.heap.size u v) : Cm w al G v :=
 ⟨h.1.then_ (k.low h.1.1.size), fun i t e => by
  obtain ⟨h1, h2, h3, h4⟩ := h.2.1 i t e
  exact ⟨h1, h2, Nat.le_trans h3 k.1.size, hst i u v t.1 t.2 h4 h3 k⟩, h.2.2⟩
theorem Cm.next {w : World} {al : Nat → World → Nat → Ex → Prop} {G : Nat → Option (Nat × Ex)} (hst : Lasts al) {u v : World} (h : Cm w al G u) (k : Made u.heap.size u v) {i g : Nat} {e : Ex} (h1 : u.heap.size ≤ g) (h12 : g ≤ e.hi) (h2 : e.hi ≤ v.heap.size) (h3 : al i v g e) : Cm w al (upd G i (g, e)) v := by
 have h' := h.step hst k
 refine ⟨h'.1, fun j t et => ?_, fun j m t x ej em ne => ?_⟩
 ·unfold upd at et
  split at et
  ·rename_i hj
   subst hj
   cases et
   exact ⟨Nat.le_trans h.1.1.size h1, h12, h2, h3⟩
  ·exact h'.2.1 j t et
 ·unfold upd at ej em
  split at ej <;> split at em
  ·rename_i a b; exact absurd (a.trans b.symm) ne
  ·cases ej
   have := (h.2.1 m _ em).2.2.1
   exact .inr (Nat.le_trans this h1)
  ·cases em
   have := (h.2.1 j _ ej).2.2.1
   exact .inl (Nat.le_trans this h1)
  ·exact h.2.2 j m t x ej em ne
def MkUpon (P : Program) (w : World) (al : Nat → World → Nat → Ex → Prop) (val : Nat → Nat → Ex → Value) (i : Nat) (G : Nat → Option (Nat × Ex)) : Result Next → Prop
 | .ok (.value x) u' => ∃ g e, x = val i g e ∧ Cm w al (upd G i (g, e)) u'
 | .ok (.enter f args) u' => Calls P f args u' fun z u'' => ∃ g e, z = .returned (val i g e) ∧ Cm w al (upd G i (g, e)) u''
 | _ => False
def agree (ds : List Nat) (G G' : Nat → Option (Nat × Ex)) : Prop := ∀ m, m ∈ ds → G' m = G m
theorem agree.rfl_ (ds : List Nat) (G : Nat → Option (Nat × Ex)) : agree ds G G := fun _ _ => rfl
theorem agree_up {ds : List Nat} {G G' : Nat → Option (Nat × Ex)} {i : Nat} {g : Nat × Ex} (h : agree ds G G') (hi : i ∉ ds) : agree ds (upd G i g) G' := fun m hm => by
 have hne : m ≠ i := fun e => hi (e ▸ hm)
 rw [h m hm]; unfold upd; rw [if_neg hne]
theorem agree_un {ds : List Nat} {G G' : Nat → Option (Nat × Ex)} {i : Nat} {g : Nat × Ex} (h : agree ds (upd G i g) G') (hi : i ∉ ds) : agree ds G G' := fun m hm => by
 have hne : m ≠ i := fun e => hi (e ▸ hm)
 rw [h m hm]; unfold upd; rw [if_neg hne]
section
variable {P : Program} {ops : Array Oper} {md : Region.Mode} {w : World} {al : Nat → World → Nat → Ex → Prop} {val : Nat → Nat → Ex → Value} {k : Nat} {qs ms ps : List Nat} {dp : Nat → List Nat}
def YD (P : Program) (ops : Array Oper) (w : World) (al : Nat → World → Nat → Ex → Prop) (ds : List Nat) (G : Nat → Option (Nat × Ex)) (o : Oper) (v : Value) (a : Act) : Prop :=
 ∀ G', agree ds G G' → (∃ u, Cm w al G' u) → YieldsIn P ops (Cm w al G') o v a
theorem YD.put {ds : List Nat} {G : Nat → Option (Nat × Ex)} {oi oj : Oper} {v u : Value} {a : Act} (hy : YD P ops w al ds G oi v a) (hsi : ∀ cs b, oi.op ≠ .select cs b) (h : ∀ d, oj.dst = some d → d ∉ oi.looksAt ops) : YD P ops w al ds G oi v (a.put oj.dst u) :=
 fun G' ha hG => (hy G' ha hG).of_same (execOp_put oi hsi a oj.dst u h) (wanted_put oi a oj.dst u h)
theorem YD.unput {ds : List Nat} {G : Nat → Option (Nat × Ex)} {oi oj : Oper} {v u : Value} {a : Act} (hy : YD P ops w al ds G oi v (a.put oj.dst u)) (hsi : ∀ cs b, oi.op ≠ .select cs b) (h : ∀ d, oj.dst = some d → d ∉ oi.looksAt ops) : YD P ops w al ds G oi v a :=
 fun G' ha hG => (hy G' ha hG).of_same (execOp_put oi hsi a oj.dst u h).symm (wanted_put oi a oj.dst u h).symm
theorem YD.more {ds : List Nat} {G : Nat → Option (Nat × Ex)} {i : Nat} {g : Nat × Ex} {o : Oper} {v : Value} {a : Act} (hy : YD P ops w al ds G o v a) (hi : i ∉ ds) : YD P ops w al ds (upd G i g) o v a := fun G' ha hG => hy G' (agree_un ha hi) hG
theorem YD.less {ds : List Nat} {G : Nat → Option (Nat × Ex)} {i : Nat} {g : Nat × Ex} {o : Oper} {v : Value} {a : Act} (hy : YD P ops w al ds (upd G i g) o v a) (hi : i ∉ ds) : YD P ops w al ds G o v a := fun G' ha hG => hy G' (agree_up ha hi) hG
structure MkD (P : Program) (ops : Array Oper) (w : World) (al : Nat → World → Nat → Ex → Prop) (val : Nat → Nat → Ex → Value) (ds : List Nat) (G : Nat → Option (Nat × Ex)) (i : Nat) (o : Oper) (d : Tmp) (a : Act) : Prop where
 dst : o.dst = some d
 guard : Region.wanted o (yielded ops a.tmps) = true
 runs : ∀ G' u, agree ds G G' → Cm w al G' u → MkUpon P w al val i G' ((execOp a.eval o).run P u)
theorem MkD.put {ds : List Nat} {G : Nat → Option (Nat × Ex)} {i : Nat} {oi oj : Oper} {d : Tmp} {u : Value} {a : Act} (h : MkD P ops w al val ds G i oi d a) (hsi : ∀ cs b, oi.op ≠ .select cs b) (hd : ∀ x, oj.dst = some x → x ∉ oi.looksAt ops) : MkD P ops w al val ds G i oi d (a.put oj.dst u) :=
 ⟨h.dst, (wanted_put oi a oj.dst u hd).trans h.guard, fun G' x ha hx => by rw [execOp_put (ops := ops) oi hsi a oj.dst u hd]; exact h.runs G' x ha hx⟩
theorem MkD.unput {ds : List Nat} {G : Nat → Option (Nat × Ex)} {i : Nat} {oi oj : Oper} {d : Tmp} {u : Value} {a : Act} (h : MkD P ops w al val ds G i oi d (a.put oj.dst u)) (hsi : ∀ cs b, oi.op ≠ .select cs b) (hd : ∀ x, oj.dst = some x → x ∉ oi.looksAt ops) : MkD P ops w al val ds G i oi d a :=
 ⟨h.dst, (wanted_put oi a oj.dst u hd).symm.trans h.guard, fun G' x ha hx => by rw [← execOp_put (ops := ops) oi hsi a oj.dst u hd]; exact h.runs G' x ha hx⟩
theorem MkD.more {ds : List Nat} {G : Nat → Option (Nat × Ex)} {i j : Nat} {g : Nat × Ex} {o : Oper} {d : Tmp} {a : Act} (h : MkD P ops w al val ds G j o d a) (hi : i ∉ ds) : MkD P ops w al val ds (upd G i g) j o d a := ⟨h.dst, h.guard, fun G' x ha hx => h.runs G' x (agree_un ha hi) hx⟩
theorem MkD.less {ds : List Nat} {G : Nat → Option (Nat × Ex)} {i j : Nat} {g : Nat × Ex} {o : Oper} {d : Tmp} {a : Act} (h : MkD P ops w al val ds (upd G i g) j o d a) (hi : i ∉ ds) : MkD P ops w al val ds G j o d a := ⟨h.dst, h.guard, fun G' x ha hx => h.runs G' x (agree_up ha hi) hx⟩
def depB (md : Region.Mode) (ops : Array Oper) (j i : Nat) : Bool := Region.waitsFor md ops j i || (down md ops 24 ((List.range ops.size).filter fun x => Region.waitsFor md ops j x)).contains i
theorem dep_done {i j : Nat} {got : Array Bool} (inv : HeadInv md ops k got) (hj : j ∈ Region.ready md ops got) (hd : depB md ops j i = true) : got.getD i false = true := by
 obtain ⟨_, ot, hot, hall⟩ := mem_ready.1 hj
 have direct : ∀ x, Region.waitsFor md ops j x = true → got.getD x false = true := fun x h => by
  obtain ⟨o', ho', e, he, hb, hon⟩ := Region.waitsFor_spec h
  have e1 : o' = ot := Option.some.inj (ho'.symm.trans hot)
  subst e1
  rw [← hon]
  exact hall e he hb
 unfold depB at hd
 simp only [Bool.or_eq_true, List.contains_iff_mem] at hd
 rcases hd with h | h
 ·exact direct i h
 ·exact down_got inv 24 _ (fun x hx => direct x (List.mem_filter.1 hx).2) i h
def GM (P : Program) (md : Region.Mode) (ops : Array Oper) (w : World) (al : Nat → World → Nat → Ex → Prop) (val : Nat → Nat → Ex → Value) (k : Nat) (qs ms : List Nat) (dp : Nat → List Nat) (g : Nat) (Q : Exit → Act → World → Prop) (L : (Nat → Option (Nat × Ex)) → Array Bool → Act → Prop) : Nat → (Nat → Option (Nat × Ex)) → Array Bool → Act → Prop
 | 0, G, got, a => L G got a
 | f + 1, G, got, a => Region.ready md ops got ≠ [] ∧ ∀ i ∈ Region.ready md ops got,
   (i ∈ qs ∧ i < k ∧ ∃ o v, ops[i]? = some o ∧ YD P ops w al (dp i) G o v a ∧ GM P md ops w al val k qs ms dp g Q L f G (got.setIfInBounds i true) (a.put o.dst v)) ∨
   (i ∈ ms ∧ i < k ∧ ∃ o d, ops[i]? = some o ∧ MkD P ops w al val (dp i) G i o d a ∧ ∀ b e, GM P md ops w al val k qs ms dp g Q L f (upd G i (b, e)) (got.setIfInBounds i true) (a.put (some d) (val i b e))) ∨
   (i = k ∧ ∀ u, Cm w al G u → wpOp P ops Q i (wpAny P md ops Q (f + g) (got.setIfInBounds i true)) a u)
theorem GM_any {g : Nat} {L : (Nat → Option (Nat × Ex)) → Array Bool → Act → Prop} {Q : Exit → Act → World → Prop}
  (hL : ∀ G got a u, Cm w al G u → L G got a → wpAny P md ops Q g got a u) :
  ∀ (f : Nat) (G : Nat → Option (Nat × Ex)) (got : Array Bool) (a : Act) (u : World), Cm w al G u → GM P md ops w al val k qs ms dp g Q L f G got a → wpAny P md ops Q (f + g) got a u
 | 0, G, got, a, u, hu, h => by rw [Nat.zero_add]; exact hL _ _ _ _ hu h
 | f + 1, G, got, a, u, hu, h => by
  rw [show f + 1 + g = (f + g) + 1 by omega]
  refine ⟨fun h0 => absurd h0 h.1, fun i hi => ?_⟩
  rcases h.2 i hi with ⟨_, _, o, v, ho, hy, hf⟩ | ⟨_, _, o, d, ho, ha, hf⟩ | ⟨_, hf⟩
  ·refine wpOp_of_qOp (C := Cm w al G) (K := fun a' => a' = a.put o.dst v) hu (fun a' u' hu' e => ?_) ((hy G (agree.rfl_ _ _) ⟨u, hu⟩).qOp ho rfl)
   rw [e]
   exact GM_any hL f _ _ _ _ hu' hf
  ·unfold wpOp
   simp only [ho]
   rw [if_pos ha.guard]
   left
   have hr := ha.runs G u (agree.rfl_ _ _) hu
   unfold Oper.wp
   generalize (execOp a.eval o).run P u = r at hr
   cases r with
   | halt x w' => exact hr.elim
   | ok x w' =>
    cases x with
    | value x =>
     obtain ⟨b, e, hx, hc⟩ := hr
     rw [Oper.upon_value, ha.dst, hx]
     exact GM_any hL f _ _ _ _ hc (hf b e)
    | enter fn args =>
     rw [Oper.upon_enter]
     refine Calls.mono hr fun z u'' ⟨b, e, hz, hc⟩ => ?_
     subst hz
     simp only []
     rw [ha.dst]
     exact GM_any hL f _ _ _ _ hc (hf b e)
    | _ => exact hr.elim
  ·exact hf u hu
theorem GM_first {i g : Nat} {Q : Exit → Act → World → Prop} {oi : Oper} {v : Value} {L : (Nat → Option (Nat × Ex)) → Array Bool → Act → Prop} (hL : ∀ G got a u, Cm w al G u → L G got a → wpAny P md ops Q g got a u) (hQ : NoFrame Q) (hpu : ∀ p ∈ ps, ∀ o, ops[p]? = some o → Pure P o) (hi : ops[i]? = some oi)
  (hsel : ∀ (j : Nat) (o : Oper) cs b, ops[j]? = some o → o.op ≠ .select cs b) (hs : waitB md ops k ps = true) (hc : Region.chainB md ops k = true) (hn : k < ops.size) (hiq : i ∈ qs) (hin : i < k) (hdp : ∀ j m, j < k → m ∈ dp j → depB md ops j m = true)
  (hdone : ∀ G got a, L G got a → ∀ j ∈ Region.ready md ops got, k ≤ j) :
  ∀ (f : Nat) (G : Nat → Option (Nat × Ex)) (got : Array Bool) (a : Act), HeadInv md ops k got →
   (∀ j oj, ops[j]? = some oj → j ≠ i → got.getD j true = false → (∀ e ∈ oj.after, Region.binds md e = true → e.on ≠ i) → oi.apart ops oj = true) →
   i ∈ Region.ready md ops got → YD P ops w al (dp i) G oi v a →
   GM P md ops w al val k qs ms dp g Q L f G (got.setIfInBounds i true) (a.put oi.dst v) → GM P md ops w al val k qs ms dp g Q L (f + 1) G got a
 | f, G, got, a, inv, hfree, hr, hy, H => by
  have hun := (mem_ready.1 hr).1
  refine ⟨fun h => (by rw [h] at hr; cases hr), fun j hj => ?_⟩
  have hle := ready_le hc inv hj
  by_cases hji : j = i
  ·subst hji; exact .inl ⟨hiq, hin, oi, v, hi, hy, H⟩
  ·have hrj := ready_mono hj hji
   obtain ⟨hjun, oj, hoj, hall⟩ := mem_ready.1 hj
   have hnot : ∀ e ∈ oj.after, Region.binds md e = true → e.on ≠ i := fun e he hb heq => by
    have h1 := hall e he hb
    rw [heq, getD_both hun] at h1
    cases h1
   have hap := hfree j oj hoj hji hjun hnot
   obtain ⟨p1, p2, p3⟩ := Oper.apart_spec hap
   have hfree' : ∀ m ok, ops[m]? = some ok → m ≠ i → (got.setIfInBounds j true).getD m true = false → (∀ e ∈ ok.after, Region.binds md e = true → e.on ≠ i) → oi.apart ops ok = true := fun m ok hk hki hun' hno => by
    refine hfree m ok hk hki ?_ hno
    by_cases hjk : j = m
    ·subst hjk; exact hjun
    ·rw [getD_set_ne true hjk] at hun'; exact hun'
   by_cases hjl : j = k
   ·have hip : i ∈ ps := ready_last hs inv (by rw [← hjl]; exact hj) hin hun
    refine .inr (.inr ⟨hjl, fun u hu => ?_⟩)
    have hy' : Yields P ops oi v a := by
     rcases hy G (agree.rfl_ _ _) ⟨u, hu⟩ with ⟨hw, hv⟩ | hw
     ·exact .inl ⟨hw, hpu i hip oi hi a _ u v (hv u hu)⟩
     ·exact .inr hw
    have hQ' := hQ
    have fin : ∀ N, wpOp P ops Q j (wpAny P md ops Q N ((got.setIfInBounds i true).setIfInBounds j true)) (a.put oi.dst v) u → wpOp P ops Q j (wpAny P md ops Q (N + 1) (got.setIfInBounds j true)) a u := fun N h => by
     refine wpOp_mono (fun a' w' h3 => wpAny_first hi hsel (fun c a w h => hQ' c _ _ w h) N (got.setIfInBounds j true) a' w' hfree' (ready_mono hr (Ne.symm hji)) h3.1 ?_) (wpOp_put hoj hap (fun cs b => hsel i oi cs b hi) (fun cs b => hsel j oj cs b hoj) (fun c a w h => hQ' c _ _ w h) hy' h)
     rw [Array.setIfInBounds_comm _ _ hji]
     exact h3.2
    match f, H with
    | 0, H =>
     have X := hL _ _ _ u hu H
     match g, X with
     | 0, X => rw [X.1] at hrj; cases hrj
     | g + 1, X => rw [Nat.zero_add]; exact fin g (X.2 j hrj)
    | f + 1, H =>
     rcases H.2 j hrj with ⟨_, h, _⟩ | ⟨_, h, _⟩ | ⟨_, h⟩
     ·omega
     ·omega
     ·rw [show f + 1 + g = f + g + 1 by omega]; exact fin _ (h u hu)
   have hjn : j < k := by omega
   have hji' : j ∉ dp i := fun hm => by
    have := dep_done inv hr (hdp i j hin hm)
    rw [getD_both hjun] at this; cases this
   match f, H with
   | 0, H => have := hdone _ _ _ H j hrj; omega
   | f + 1, H =>
    rcases H.2 j hrj with ⟨hjq, hjn', o, u, ho, hyj, hf⟩ | ⟨hjm, hjn', o, d, ho, ha, hf⟩ | ⟨h1, _⟩
    ·have e : o = oj := Option.some.inj (ho.symm.trans hoj)
     subst e
     refine .inl ⟨hjq, hjn', o, u, ho, hyj.unput (fun cs b => hsel j o cs b ho) p1, ?_⟩
     refine GM_first hL hQ hpu hi hsel hs hc hn hiq hin hdp hdone f G _ _ (inv.set hj hjn) hfree' (ready_mono hr (Ne.symm hji)) (hy.put (fun cs b => hsel i oi cs b hi) p3) ?_
     rw [Array.setIfInBounds_comm _ _ hji, ← Act.put_comm a v u p2]
     exact hf
    ·have e : o = oj := Option.some.inj (ho.symm.trans hoj)
     subst e
     refine .inr (.inl ⟨hjm, hjn', o, d, ho, ha.unput (fun cs b => hsel j o cs b ho) p1, fun b x => ?_⟩)
     have hyi : YD P ops w al (dp i) (upd G j (b, x)) oi v (a.put o.dst (val j b x)) := (hy.put (fun cs b => hsel i oi cs b hi) p3).more hji'
     have hg := hf b x
     rw [← ha.dst] at hg ⊢
     refine GM_first hL hQ hpu hi hsel hs hc hn hiq hin hdp hdone f _ _ _ (inv.set hj hjn) hfree' (ready_mono hr (Ne.symm hji)) hyi ?_
     rw [Array.setIfInBounds_comm _ _ hji, ← Act.put_comm a v _ p2]
     exact hg
    ·omega
theorem GM_firstM {i g : Nat} {Q : Exit → Act → World → Prop} {oi : Oper} {di : Tmp} {L : (Nat → Option (Nat × Ex)) → Array Bool → Act → Prop} (hi : ops[i]? = some oi) (hsel : ∀ (j : Nat) (o : Oper) cs b, ops[j]? = some o → o.op ≠ .select cs b)
  (hs : waitB md ops k ps = true) (hc : Region.chainB md ops k = true) (hn : k < ops.size) (him : i ∈ ms) (hin : i < k) (hips : i ∉ ps) (hdp : ∀ j m, j < k → m ∈ dp j → depB md ops j m = true)
  (hdone : ∀ G got a, L G got a → ∀ j ∈ Region.ready md ops got, k ≤ j) :
  ∀ (f : Nat) (G : Nat → Option (Nat × Ex)) (got : Array Bool) (a : Act), HeadInv md ops k got → (∀ j, j ∈ qs → got.getD j true = true ∨ depB md ops j i = true) →
   (∀ j oj, ops[j]? = some oj → j ≠ i → got.getD j true = false → (∀ e ∈ oj.after, Region.binds md e = true → e.on ≠ i) → oi.apart ops oj = true) →
   i ∈ Region.ready md ops got → MkD P ops w al val (dp i) G i oi di a →
   (∀ b e, GM P md ops w al val k qs ms dp g Q L f (upd G i (b, e)) (got.setIfInBounds i true) (a.put (some di) (val i b e))) → GM P md ops w al val k qs ms dp g Q L (f + 1) G got a
 | f, G, got, a, inv, hall0, hfree, hr, ha, H => by
  have hun := (mem_ready.1 hr).1
  refine ⟨fun h => (by rw [h] at hr; cases hr), fun j hj => ?_⟩
  have hjn : j < k := by
   refine Nat.lt_of_le_of_ne (ready_le hc inv hj) fun e => ?_
   exact hips (ready_last (i := i) hs inv (by rw [← e]; exact hj) hin hun)
  obtain ⟨hjun, oj, hoj, hall⟩ := mem_ready.1 hj
  have noq : j ∉ qs := fun hq => by
   rcases hall0 j hq with h | h
   ·rw [h] at hjun; cases hjun
   ·have := dep_done inv hj h
    rw [getD_both hun] at this; cases this
  by_cases hji : j = i
  ·subst hji; exact .inr (.inl ⟨him, hin, oi, di, hi, ha, H⟩)
  ·have hrj := ready_mono hj hji
   have hij' : i ∉ dp j := fun hm => by
    have := dep_done inv hj (hdp j i hjn hm)
    rw [getD_both hun] at this; cases this
   have hji' : j ∉ dp i := fun hm => by
    have := dep_done inv hr (hdp i j hin hm)
    rw [getD_both hjun] at this; cases this
   match f, H with
   | 0, H => have := hdone _ _ _ (H 0 0) j hrj; omega
   | f + 1, H =>
    have hnot : ∀ e ∈ oj.after, Region.binds md e = true → e.on ≠ i := fun e he hb heq => by
     have h1 := hall e he hb
     rw [heq, getD_both hun] at h1
     cases h1
    obtain ⟨p1, p2, p3⟩ := Oper.apart_spec (hfree j oj hoj hji hjun hnot)
    have hfree' : ∀ m ok, ops[m]? = some ok → m ≠ i → (got.setIfInBounds j true).getD m true = false → (∀ e ∈ ok.after, Region.binds md e = true → e.on ≠ i) → oi.apart ops ok = true := fun m ok hk hki hun' hno => by
     refine hfree m ok hk hki ?_ hno
     by_cases hjk : j = m
     ·subst hjk; exact hjun
     ·rw [getD_set_ne true hjk] at hun'; exact hun'
    have key : ∀ b e, ∃ d, j ∈ ms ∧ MkD P ops w al val (dp j) (upd G i (b, e)) j oj d (a.put (some di) (val i b e)) ∧ ∀ b' e', GM P md ops w al val k qs ms dp g Q L f (upd (upd G i (b, e)) j (b', e')) ((got.setIfInBounds i true).setIfInBounds j true) ((a.put (some di) (val i b e)).put (some d) (val j b' e')) := fun b e => by
     rcases (H b e).2 j hrj with ⟨hjq, _⟩ | ⟨h1, _, o, d, ho, had, hf⟩ | ⟨h1, _⟩
     ·exact absurd hjq noq
     ·have e : o = oj := Option.some.inj (ho.symm.trans hoj)
      subst e
      exact ⟨d, h1, had, hf⟩
     ·omega
    obtain ⟨d, hjm, had, _⟩ := key 0 0
    have had0 : MkD P ops w al val (dp j) G j oj d a := by
     have := had.less hij'
     rw [← ha.dst] at this
     exact this.unput (fun cs b => hsel j oj cs b hoj) p1
    refine .inr (.inl ⟨hjm, hjn, oj, d, hoj, had0, fun b' e' => ?_⟩)
    have ha' : MkD P ops w al val (dp i) (upd G j (b', e')) i oi di (a.put (some d) (val j b' e')) := by
     have := (ha.put (u := val j b' e') (fun cs b => hsel i oi cs b hi) p3).more (g := (b', e')) hji'
     rw [had0.dst] at this
     exact this
    refine GM_firstM hi hsel hs hc hn him hin hips hdp hdone f _ _ _ (inv.set hj hjn) (fun m hm => by
     rcases hall0 m hm with h | h
     ·exact .inl (set_listed h)
     ·exact .inr h) hfree' (ready_mono hr (Ne.symm hji)) ha' fun b e => ?_
    obtain ⟨d', _, had', hf⟩ := key b e
    have ed : d' = d := Option.some.inj (had'.dst.symm.trans had0.dst)
    subst ed
    rw [Array.setIfInBounds_comm _ _ hji, upd_comm G hji]
    have hp : ∀ x, some di = some x → some d' ≠ some x := fun x hx => by rw [← had0.dst]; exact p2 x (by rw [ha.dst]; exact hx)
    rw [← Act.put_comm a _ _ hp]
    exact hf b' e'
def ordB (md : Region.Mode) (ops : Array Oper) (g k : Nat) (qs ms : List Nat) : List Nat → Array Bool → Bool
 | [], got => Region.seqB md ops g k got
 | i :: l, got => (Region.ready md ops got).contains i && Region.free md ops got i && (qs.contains i || (ms.contains i && qs.all fun j => got.getD j true || depB md ops j i)) && ordB md ops g k qs ms l (got.setIfInBounds i true)
def Can (P : Program) (ops : Array Oper) (w : World) (al : Nat → World → Nat → Ex → Prop) (val : Nat → Nat → Ex → Value) (qs ms : List Nat) (dp : Nat → List Nat) (Lq : (Nat → Option (Nat × Ex)) → Act → Prop) : List Nat → (Nat → Option (Nat × Ex)) → Act → Prop
 | [], G, a => Lq G a
 | i :: l, G, a => (qs.contains i = true ∧ ∃ o v, ops[i]? = some o ∧ YD P ops w al (dp i) G o v a ∧ Can P ops w al val qs ms dp Lq l G (a.put o.dst v)) ∨
   (qs.contains i = false ∧ ∃ o d, ops[i]? = some o ∧ MkD P ops w al val (dp i) G i o d a ∧ ∀ b e, Can P ops w al val qs ms dp Lq l (upd G i (b, e)) (a.put (some d) (val i b e)))
theorem GM_lex {g : Nat} {Q : Exit → Act → World → Prop} {Lq : (Nat → Option (Nat × Ex)) → Act → Prop} (hL : ∀ G got a u, Cm w al G u → (Region.seqB md ops g k got = true ∧ Lq G a) → wpAny P md ops Q g got a u) (hQ : NoFrame Q) (hpu : ∀ p ∈ ps, ∀ o, ops[p]? = some o → Pure P o)
  (hsel : Region.noSelect ops = true) (hs : waitB md ops k ps = true) (hc : Region.chainB md ops k = true) (hn : k < ops.size) (hdp : ∀ j m, j < k → m ∈ dp j → depB md ops j m = true) (hmp : ∀ i, i ∈ ms → i ∉ ps) :
  ∀ (l : List Nat) (G : Nat → Option (Nat × Ex)) (got : Array Bool) (a : Act), (∀ i, i ∈ l → i < k) → HeadInv md ops k got → ordB md ops g k qs ms l got = true → Can P ops w al val qs ms dp Lq l G a →
  GM P md ops w al val k qs ms dp g Q (fun G' got' a' => Region.seqB md ops g k got' = true ∧ Lq G' a') l.length G got a
 | [], G, got, a, _, _, hB, h => ⟨hB, h⟩
 | i :: l, G, got, a, hl, inv, hB, h => by
  simp only [ordB, Bool.and_eq_true] at hB
  obtain ⟨⟨⟨hr, hf⟩, hq⟩, hB'⟩ := hB
  have hin := hl i (List.mem_cons_self ..)
  have hr' : i ∈ Region.ready md ops got := by simpa using hr
  rcases h with ⟨hiq, o, v, h0, hy, hK⟩ | ⟨hiq, o, d, h0, ha, hK⟩
  ·refine GM_first hL hQ hpu h0 (Region.noSelect_spec hsel) hs hc hn (by simpa using hiq) hin hdp (fun G' got' a' hL => seqB_ready hL.1) l.length G got a inv (Region.free_spec h0 hf) hr' hy ?_
   exact GM_lex hL hQ hpu hsel hs hc hn hdp hmp l G _ _ (fun j hj => hl j (List.mem_cons_of_mem _ hj)) (inv.set hr' hin) hB' hK
  ·rw [hiq] at hq
   simp only [Bool.false_or, Bool.and_eq_true, List.all_eq_true, Bool.or_eq_true] at hq
   have him : i ∈ ms := by simpa using hq.1
   refine GM_firstM h0 (Region.noSelect_spec hsel) hs hc hn him hin (hmp i him) hdp (fun G' got' a' hL => seqB_ready hL.1) l.length G got a inv hq.2 (Region.free_spec h0 hf) hr' ha fun b e => ?_
   exact GM_lex hL hQ hpu hsel hs hc hn hdp hmp l _ _ _ (fun j hj => hl j (List.mem_cons_of_mem _ hj)) (inv.set hr' hin) hB' (hK b e)
theorem can_quiet {A : Act} {N : Nat} {ds : List Nat} {Lq : (Nat → Option (Nat × Ex)) → Act → Prop} {rest : List Nat} {G : Nat → Option (Nat × Ex)} (hst : Lasts al) (hG0 : ∃ G', agree ds G G' ∧ ∃ u, Cm w al G' u) : ∀ (l : List Nat) (lo : List Oper) (a : Act), l.map (fun i => ops[i]?) = lo.map some → a.tmps.size = N → dstB N lo = true → (∀ i, i ∈ l → qs.contains i = true) → (∀ i, i ∈ l → ∀ m, m ∈ ds → m ∈ dp i) →
  (∀ G', agree ds G G' → (∃ u, Cm w al G' u) → wpQuiet P ops (Cm w al G') (fun a' => a' = A) lo a) → Can P ops w al val qs ms dp Lq rest G A → Can P ops w al val qs ms dp Lq (l ++ rest) G a
 | [], [], a, _, _, _, _, _, h, hA => by
  obtain ⟨G0, hag, hne⟩ := hG0
  have e : a = A := h G0 hag hne
  rw [e]; exact hA
 | [], _ :: _, a, hm, _, _, _, _, h, _ => by simp at hm
 | _ :: _, [], a, hm, _, _, _, _, h, _ => by simp at hm
 | i :: l, o :: lo, a, hm, hN, hD, hq, hds, h, hA => by
  simp only [List.map_cons, List.cons.injEq] at hm
  unfold dstB at hD
  simp only [Bool.and_eq_true] at hD
  obtain ⟨hd, hD'⟩ := hD
  cases ho : o.dst with
  | none => rw [ho] at hd; cases hd
  | some d =>
   rw [ho] at hd
   simp only [Bool.and_eq_true, decide_eq_true_eq, List.all_eq_true, bne_iff_ne] at hd
   obtain ⟨G0, hag, hne⟩ := id hG0
   obtain ⟨v, _, hv⟩ := quiet_cons (h _ hag hne)
   have slot : ∀ G', (∃ u, Cm w al G' u) → ∀ x, wpQuiet P ops (Cm w al G') (fun a' => a' = A) lo (a.put o.dst x) → A.tmps[d]? = some x := fun G' hG x hx => by
    rw [last_slot lo _ hx hd.2, ho]
    exact put_get a d x (by rw [hN]; exact hd.1)
   have all : ∀ G', agree ds G G' → (∃ u, Cm w al G' u) → YieldsIn P ops (Cm w al G') o v a ∧ wpQuiet P ops (Cm w al G') (fun a' => a' = A) lo (a.put o.dst v) := fun G' ha hG => by
    obtain ⟨x, hy, hx⟩ := quiet_cons (h G' ha hG)
    have e : x = v := Option.some.inj ((slot G' hG x hx).symm.trans (slot _ hne v hv))
    rw [e] at hy hx
    exact ⟨hy, hx⟩
   exact .inl ⟨hq i (List.mem_cons_self ..), o, v, hm.1, fun G' ha hG => (all G' (fun m hm' => ha m (hds i (List.mem_cons_self ..) m hm')) hG).1,
    can_quiet hst hG0 l lo _ hm.2 ((put_size ..).trans hN) hD' (fun j hj => hq j (List.mem_cons_of_mem _ hj)) (fun j hj => hds j (List.mem_cons_of_mem _ hj)) (fun G' ha hG => (all G' ha hG).2) hA⟩
def mkB (md : Region.Mode) (ops : Array Oper) (k : Nat) (cs qs ms ps : List Nat) (dp : Nat → List Nat) : Bool :=
 Region.noSelect ops && decide (k < ops.size) && waitB md ops k ps && Region.chainB md ops k && cs.all (fun i => decide (i < k)) && decide (cs.length = k) && (List.range k).all (fun j => (dp j).all fun m => depB md ops j m) && ms.all (fun i => !(ps.contains i)) && ordB md ops (ops.size - k) k qs ms cs (Array.replicate ops.size false)
end
section
variable {P : Program}
theorem reg_mk {id : Nat} {Q : Exit → Act → World → Prop} {a : Act} {w : World} {l : List Oper} {val : Nat → Nat → Ex → Value} (al : Nat → World → Nat → Ex → Prop) (k : Nat) (cs qs ms ps : List Nat) (dp : Nat → List Nat) (hm : P.follows .mixedOrders = true)
  (hB : mkB .any l.toArray k cs qs ms ps dp = true) (hpu : ∀ p ∈ ps, ∀ o, l.toArray[p]? = some o → Pure P o)
  (h : Can P l.toArray w al val qs ms dp (fun G a' => ∀ u, Cm w al G u → wpList P l.toArray (NoPanic Q) (l.drop k) a' u) cs (fun _ => none) a) : (Code.region id l.toArray true).wp P Q a w := by
 refine wp_region_noPanic ?_
 simp only [mkB, Bool.and_eq_true, decide_eq_true_eq, List.all_eq_true, Bool.not_eq_true'] at hB
 obtain ⟨⟨⟨⟨⟨⟨⟨⟨hsel, hn⟩, hs⟩, hc⟩, hlt⟩, hlen⟩, hdp⟩, hmp⟩, hlex⟩ := hB
 have hn' : k < l.length := by simpa using hn
 have hdl : (l.drop k).length = l.toArray.size - k := by simp
 have inv0 : HeadInv .any l.toArray k (Array.replicate l.toArray.size false) :=
  ⟨by simp, fun j oj _ hl => (by rw [getD_replicate_false] at hl; cases hl), fun t _ ht => getD_in (by simpa using ht) (getD_replicate_false _ _)⟩
 have hL : ∀ G got a' u, Cm w al G u → (Region.seqB .any l.toArray (l.toArray.size - k) k got = true ∧ ∀ u, Cm w al G u → wpList P l.toArray (NoPanic Q) (l.drop k) a' u) → wpAny P .any l.toArray (NoPanic Q) (l.toArray.size - k) got a' u := fun G got a' u hu hL => by
  have := wpAny_of_seq (md := .any) (Q' := NoPanic Q) (l.drop k) k got a' u (fun j => by simp [List.getElem?_drop]) (by rw [hdl]; exact hL.1) (hL.2 u hu)
  rwa [hdl] at this
 have H := GM_lex (md := .any) (g := l.toArray.size - k) (P := P) (w := w) (al := al) (val := val) (ps := ps) (Lq := fun G a' => ∀ u, Cm w al G u → wpList P l.toArray (NoPanic Q) (l.drop k) a' u) (qs := qs) (ms := ms) (dp := dp) (Q := NoPanic Q)
  hL (fun _ _ _ _ h => h) hpu hsel hs hc hn (fun j m hj hm => hdp j (List.mem_range.2 hj) m hm) (fun i hi hp => by have := hmp i hi; simp at this; exact this hp) cs (fun _ => none) _ a (fun i hi => hlt i hi) inv0 hlex h
 refine wp_region_any hm ?_
 have c0 : Cm w al (fun _ => none) { w with drawn := w.drawn + 1 } := ⟨made_draw w, fun i g e => (by cases e), fun i j t u e => (by cases e)⟩
 have := GM_any hL _ _ _ _ _ c0 H
 rw [hlen, show k + (l.toArray.size - k) = l.toArray.size by omega] at this
 exact this
theorem can_class {lo : List Oper} {w : World} {al : Nat → World → Nat → Ex → Prop} {val : Nat → Nat → Ex → Value} {qs ms : List Nat} {dp : Nat → List Nat} {Lq : (Nat → Option (Nat × Ex)) → Act → Prop} {rest : List Nat} {G : Nat → Option (Nat × Ex)} {a : Act} (l ds : List Nat) (N : Nat) (hst : Lasts al) (hG0 : ∃ G', agree ds G G' ∧ ∃ u, Cm w al G' u)
  (hq : l.map (fun i => lo.toArray[i]?) = (l.filterMap fun i => lo[i]?).map some) (hN : a.tmps.size = N) (hD : dstB N (l.filterMap fun i => lo[i]?) = true) (hqs : (l.all fun i => qs.contains i && ds.all fun m => (dp i).contains m) = true)
  (h : ∃ A : Act, (∀ (T : Type) (_ : Nonempty T) (f : T → World), Class w f → (∀ m, m ∈ ds → ∀ t, G m = some t → ∀ x, w.heap.size ≤ t.1 ∧ t.1 ≤ t.2.hi ∧ t.2.hi ≤ (f x).heap.size ∧ al m (f x) t.1 t.2) → wpQuiet P lo.toArray (fun w' => ∃ x, w' = f x) (fun a' => a' = A) (l.filterMap fun i => lo[i]?) a) ∧
   Can P lo.toArray w al val qs ms dp Lq rest G A) : Can P lo.toArray w al val qs ms dp Lq (l ++ rest) G a := by
 obtain ⟨A, h1, h2⟩ := h
 simp only [List.all_eq_true, Bool.and_eq_true] at hqs
 refine can_quiet (N := N) (ds := ds) hst hG0 l _ a hq hN hD (fun i hi => (hqs i hi).1) (fun i hi m hm => by have := (hqs i hi).2 m hm; simpa using this) (fun G' ha hG => ?_) h2
 obtain ⟨u, hu⟩ := hG
 have := h1 {v // Cm w al G' v} ⟨⟨u, hu⟩⟩ Subtype.val ⟨fun x => x.2.1, fun x v hv => ⟨⟨v, x.2.step hst hv⟩, rfl⟩⟩ (fun m hm g e x => x.2.2.1 m g (by rw [ha m hm]; exact e))
 have e : (fun w' => ∃ x : {v // Cm w al G' v}, w' = x.1) = Cm w al G' := by
  funext w'
  exact propext ⟨fun ⟨x, hx⟩ => hx ▸ x.2, fun h => ⟨⟨w', h⟩, rfl⟩⟩
 rw [e] at this
 exact this
theorem any_class {w : World} {al : Nat → World → Nat → Ex → Prop} (G : Nat → Option (Nat × Ex)) : ∃ G', agree [] G G' ∧ ∃ u, Cm w al G' u :=
 ⟨fun _ => none, fun m hm => (by cases hm), w, Made.rfl_ _ _, fun i g e => (by cases e), fun i j t u e => (by cases e)⟩
theorem can_mk {ops : Array Oper} {w : World} {al : Nat → World → Nat → Ex → Prop} {val : Nat → Nat → Ex → Value} {qs ms : List Nat} {dp : Nat → List Nat} {Lq : (Nat → Option (Nat × Ex)) → Act → Prop} {rest : List Nat} {G : Nat → Option (Nat × Ex)} {a : Act} (i : Nat) (d : Tmp) (o : Oper) (hq : qs.contains i = false) (ho : ops[i]? = some o) (hd : o.dst = some d) (hg : Region.wanted o (yielded ops a.tmps) = true)
  (h1 : ∀ G' u, agree (dp i) G G' → Cm w al G' u → MkUpon P w al val i G' ((execOp a.eval o).run P u))
  (h2 : ∀ b e, Can P ops w al val qs ms dp Lq rest (upd G i (b, e)) (a.put (some d) (val i b e))) : Can P ops w al val qs ms dp Lq (i :: rest) G a :=
 .inr ⟨hq, o, d, ho, ⟨hd, hg, h1⟩, h2⟩
end
end Go.Proofs.YtcfphdcinihdbaaGreat.Fx.MY