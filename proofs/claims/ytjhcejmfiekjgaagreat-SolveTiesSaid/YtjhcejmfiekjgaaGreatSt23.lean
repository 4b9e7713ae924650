/- SoU SoM SpA -/
import Derived.Test.YtjhcejmfiekjgaaGreatSt20
import Derived.Test.YtjhcejmfiekjgaaGreatSt22
set_option maxRecDepth 100000
set_option maxHeartbeats 64000000
/- Package solve: the rows of pairs of bodies. -/
namespace Go.Proofs.YtjhcejmfiekjgaaGreat.Fx
open Go.ChangeShapes Go.WideShapes Go.ChangeAt Go.RowKit
set_option linter.unusedVariables false
def PairR (tt : Bd → Bd → Option Tch) (C : List Ct) (L : List Bd) (p : Int × Int) (R : List Ro) : Prop :=
 (∃ i k a b, L[i]? = some a ∧ L[k]? = some b ∧ a.id = p.1 ∧ b.id = p.2 ∧ RowsOf C i k a b ((tt a b).getD noTch).nx ((tt a b).getD noTch).ny ((tt a b).getD noTch).pts R) ∨ (R = [] ∧ ((∀ x ∈ L, x.id ≠ p.1) ∨ ∀ x ∈ L, x.id ≠ p.2))
inductive RowsR (tt : Bd → Bd → Option Tch) (C : List Ct) (L : List Bd) : List (Int × Int) → List Ro → Prop
 | nil : RowsR tt C L [] []
 | snoc {ps p R R'} : RowsR tt C L ps R → PairR tt C L p R' → RowsR tt C L (ps ++ [p]) (R ++ R')
theorem id_at_so {B : List Bd} (hup : (B.map (·.id)).Pairwise (· < ·)) {i j : Nat} {x y : Bd} (hx : B[i]? = some x) (hy : B[j]? = some y) (e : x.id = y.id) : i = j := by
 rcases Nat.lt_trichotomy i j with h | h | h
 ·have := List.pairwise_iff_getElem.1 hup i j (by simpa using (List.getElem?_eq_some_iff.1 hx).1) (by simpa using (List.getElem?_eq_some_iff.1 hy).1) h
  simp [(List.getElem?_eq_some_iff.1 hx).2, (List.getElem?_eq_some_iff.1 hy).2] at this
  omega
 ·exact h
 ·have := List.pairwise_iff_getElem.1 hup j i (by simpa using (List.getElem?_eq_some_iff.1 hy).1) (by simpa using (List.getElem?_eq_some_iff.1 hx).1) h
  simp [(List.getElem?_eq_some_iff.1 hx).2, (List.getElem?_eq_some_iff.1 hy).2] at this
  omega
theorem wbody_so (tk nb nj gx gy : Int) (oj oc : Option Addr) (nn cj nc cc : Nat) {l : List Bd} {ao : Option Addr} {n c : Nat} (id : Int) (hn : l.length = n) (hmx : n ≤ 1073741824) (hup : (l.map (·.id)).Pairwise (· < ·)) :
  ∃ (i : Nat) (r : Bool), (r = true → ∃ x, l[i]? = some x ∧ x.id = id) ∧ (r = false → ∀ x ∈ l, x.id ≠ id) ∧ ∀ w, LsT encB 11 w ao l → Calls Tryz.prog 24 #[wdV tk nb nj gx gy (.slice ao n c) (.slice oj nn cj) (.slice oc nc cc), .int .i64 id] w fun e v => e = .returned (.tuple #[.int .i64 (i : Nat), .bool r]) ∧ Made w.heap.size w v := by
 by_cases h : ∃ x ∈ l, x.id = id
 ·obtain ⟨x, hx, e⟩ := h
  obtain ⟨i, hi⟩ := List.mem_iff_getElem?.1 hx
  refine ⟨i, true, fun _ => ⟨x, hi, e⟩, fun h => (by cases h), fun w hl => (wbody_c tk nb nj gx gy oj oc nn cj nc cc (c := c) id hn hmx hl hup).mono ?_⟩
  rintro e' v ⟨i', r', rfl, k, h1, h2⟩
  cases r' with
  | false => exact absurd e ((h2 rfl).2 x hx)
  | true =>
   obtain ⟨y, hy, ey⟩ := h1 rfl
   have : i' = i := id_at_so hup hy hi (ey.trans e.symm)
   subst this
   exact ⟨rfl, k⟩
 ·refine ⟨0, false, fun h => (by cases h), fun _ x hx e => h ⟨x, hx, e⟩, fun w hl => (wbody_c tk nb nj gx gy oj oc nn cj nc cc (c := c) id hn hmx hl hup).mono ?_⟩
  rintro e' v ⟨i', r', rfl, k, h1, h2⟩
  cases r' with
  | false =>
   have := (h2 rfl).1
   subst this
   exact ⟨rfl, k⟩
  | true =>
   obtain ⟨y, hy, ey⟩ := h1 rfl
   exact absurd ⟨y, List.mem_of_getElem? hy, ey⟩ h
theorem so_append_none {P : Program} (w : World) (base : Nat) (t ty e : TypeId) (i : TypeInfo) (size : Nat) (ht : P.underlying t = some (.slice e)) (hi : P.info? e = some i) (v : Value) (n : Nat) (xs : List Value) (hown : w.ownsRow base e size v n xs) (ao : Option Addr) (c : Nat) :
  (Builtin.append_ #[t, t] ty #[v, .slice ao 0 c]).run P w = .ok v w := by
 have hf : (Builtin.firstCells i.size 0 (.slice ao 0 c)).run P w = .ok #[] w := by
  cases ao with
  | none => simp [Builtin.firstCells, Sem.run_pure]
  | some a => exact run_firstCells_some w i.size 0 a 0 c [] (by simp) (by simp)
 rcases hown.2 with ⟨rfl, rfl⟩ | ⟨g, cap, cur, rfl, _, _, hnc, _⟩
 ·simp [Builtin.append_, run_underlying ht, sizeOf, typeInfo, hi, Builtin.lenOf, hf]
 ·simp [Builtin.append_, run_underlying ht, sizeOf, typeInfo, hi, Builtin.lenOf, hf, hnc, storeCells]
theorem so_wp_append_none {P : Program} {ops : Array Oper} {rest : List Oper} {o : Oper} {a : Act} {w : World} {Q : Exit → Act → World → Prop} (hgd : o.guard = none) (s x : Operand) (t : TypeId) (ho : o.op = .call { callee := .builtin .append, args := #[s, x], argTypes := #[t, t] }) (v' : Value)
  (hr : ∀ ty, (Builtin.append_ #[t, t] ty #[a.eval s, a.eval x]).run P w = .ok v' w) (h : wpList P ops Q rest (a.put o.dst v') w) : wpList P ops Q (o :: rest) a w := by
 refine wpList_plain hgd fun _ hK => ?_
 unfold Oper.wp execOp
 simp only [ho, resolve, invoke, builtin, Sem.run_bind, Sem.run_pure, Result.andThen_ok, List.map_toArray, List.map_cons, List.map_nil, hr]
 exact hK _ _ h
theorem rows_c (tt : Bd → Bd → Option Tch) {tk nb nj gx gy : Int} {L : List Bd} {C : List Ct} {Ps : List (Int × Int)} {ao op oj oc : Option Addr} {n cb nj' cj nc cc np cp : Nat} {w : World}
  (hn : L.length = n) (hl : LsT encB 11 w ao L) (ho : SlOk ao n cb) (hI : ∀ b ∈ L, BdI b) (hP : ∀ b ∈ L, BodyP b) (hS : ∀ b ∈ L, Sl w b.ao b.n b.f) (hmx : n ≤ 1073741824) (hup : (L.map (·.id)).Pairwise (· < ·))
  (hC : LsT encC 5 w oc C) (hnc : C.length = nc) (hncx : nc ≤ 1073741824) (hupC : C.Pairwise LtC) (hCI : ∀ c ∈ C, CtI c)
  (hp : LsT encP 2 w op Ps) (hnp : Ps.length = np) (hnpx : np ≤ 1048576)
  (hT : 0 < np → ∀ a ∈ L, ∀ b ∈ L, ∀ v, Below w.heap.size w v → Calls Tryz.prog 79 #[bdV a, bdV b] v (TouchQ (tt a b) v))
  (hTI : 0 < np → ∀ a ∈ L, ∀ b ∈ L, I64 ((tt a b).getD noTch).nx ∧ I64 ((tt a b).getD noTch).ny ∧ ((tt a b).getD noTch).pts.length ≤ 1024 ∧ ∀ p ∈ ((tt a b).getD noTch).pts, I64 p.x ∧ I64 p.y ∧ I64 p.d ∧ I64 p.k) :
  Calls Tryz.prog 19 #[.agg #[.int .i64 tk, .int .i64 nb, .int .i64 nj, .int .i64 gx, .int .i64 gy, .slice ao n cb, .slice oj nj' cj, .slice oc nc cc], .slice op np cp] w fun e v => ∃ orr cr R, e = .returned (.slice orr R.length cr) ∧ RowsR tt C L Ps R ∧ v.ownsRow w.heap.size 67 14 (.slice orr R.length cr) R.length (flatE encR R) ∧ Below w.heap.size w v := by
 obtain ⟨W0, eW⟩ : ∃ W, W = w.alloc (.cells #[.int .i64 tk, .int .i64 nb, .int .i64 nj, .int .i64 gx, .int .i64 gy, .slice ao n cb, .slice oj nj' cj, .slice oc nc cc] 31) := ⟨_, rfl⟩
 have hW0 : Has W0 w.heap.size 31 #[.int .i64 tk, .int .i64 nb, .int .i64 nj, .int .i64 gx, .int .i64 gy, .slice ao n cb, .slice oj nj' cj, .slice oc nc cc] := by rw [eW]; exact has_new _ _ _
 have m0 : Made w.heap.size w W0 := by rw [eW]; exact (Made.rfl_ _ _).cells (Nat.le_refl _) _ _
 have c5 : W0.cell? ⟨w.heap.size, 5, none⟩ = some (.slice ao n cb) := by rw [hW0.at_]; rfl
 have HWE := hid (weighed_c (w := W0) hn (hl.below m0.1) ho hI hP (fun b hb => Sl.blw (hS b hb) m0.1) hmx)
 obtain ⟨g0, eg0⟩ : ∃ g, w.heap.size = g := ⟨_, rfl⟩
 have HW0 := hid hW0
 have M0 := hid m0
 rw [eg0] at HW0 c5
 go_enter Tryz.func19, Tryz.ntmps19
 go_upto_region 1 with fail
 rw [← eW]
 try rw [eg0]
 clear eW
 go_wp2_with fail
 refine HWE.out.mono ?_
 rintro e w1 ⟨om, cm, rfl, k1, hmass⟩
 obtain ⟨W2, eW2⟩ : ∃ W, W = w1.alloc (.cells #[.slice ao n cb, .slice om n cm] 79) := ⟨_, rfl⟩
 obtain ⟨gc, egc⟩ : ∃ g, w1.heap.size = g := ⟨_, rfl⟩
 have kk2 : Below W0.heap.size W0 W2 := k1.trans (by rw [eW2]; exact ((Made.rfl_ _ _).cells (Nat.le_refl _) _ _).1.mono k1.size)
 have HW2 : Hid (Has W2 g0 31 #[.int .i64 tk, .int .i64 nb, .int .i64 nj, .int .i64 gx, .int .i64 gy, .slice ao n cb, .slice oj nj' cj, .slice oc nc cc]) := HW0.out.below kk2 HW0.out.here
 have HC2 : Hid (Has W2 gc 79 #[.slice ao n cb, .slice om n cm]) := by unfold Hid; rw [eW2, ← egc]; exact has_new _ _ _
 have BW2 : Hid (Below w.heap.size w W2) := m0.1.trans (kk2.mono m0.1.size)
 have HL2 : Hid (LsT encB 11 W2 ao L) := hl.below BW2.out
 have HCt2 : Hid (LsT encC 5 W2 oc C) := hC.below BW2.out
 have HPs2 : Hid (LsT encP 2 W2 op Ps) := hp.below BW2.out
 have HM2 : Hid (0 < n → ∃ gm, om = some ⟨gm, 0, none⟩ ∧ gm < W2.heap.size ∧ LsB encM 4 W2 gm 0 L) := fun h0 => by
  obtain ⟨gm, cm', em, _, _, _, hrm⟩ := RowL.of_own encM_len hn hmass h0
  cases em
  have h2 : RowL encM 4 W2 gm _ n L := RowL.stays hrm (B := w1.heap.size) (by rw [eW2]; exact (Made.rfl_ _ _).cells (Nat.le_refl _) _ _) hrm.here
  exact ⟨gm, rfl, h2.here, h2.lsB⟩
 have HBody : Hid (∀ id, _) := fun id => wbody_so tk nb nj gx gy oj oc nj' cj nc cc (c := cb) id hn hmx hup (ao := ao)
 have HT2 := hid (fun (h0 : 0 < np) (a b : Bd) (ha : a ∈ L) (hb : b ∈ L) v (k : Made W2.heap.size W2 v) => hT h0 a ha b hb v (BW2.out.trans (k.1.mono BW2.out.size)))
 have HTI := hid hTI; have HI := hid hI; have HCI := hid hCI; have HNC := hid hnc; have HUC := hid hupC; have HN := hid hn; have HNP := hid hnp
 obtain ⟨iO, hiO, hz0, hz1, hz2⟩ := info_parts infoRo
 have iHi := hid hiO; have iH0 := hid hz0; have iH1 := hid hz1; have iH2 := hid hz2
 have lwB : w.heap.size ≤ W2.heap.size := BW2.out.size
 obtain ⟨B1, eB1⟩ : ∃ B, W2.heap.size = B := ⟨_, rfl⟩
 have EB1 := hid eB1
 have l0 : g0 < B1 := by rw [← eB1]; exact HW2.out.here
 have lc : gc < B1 := by rw [← eB1]; exact HC2.out.here
 rw [eB1] at lwB
 clear hn hl ho hI hP hS hup hC hnc hupC hCI hp hnp hT hTI hW0 m0 c5 HWE HW0 M0 k1 hmass kk2 hiO hz0 hz1 hz2 eB1
 have hszW : (Tryz.prog.info? 31).map (·.size) = some 8 := by kernel_rfl
 have hszC : (Tryz.prog.info? 79).map (·.size) = some 2 := by kernel_rfl
 go_upto_region 3 with fail
 try rw [← eW2]
 try rw [egc]
 clear eW2 egc
 go_wp2_with fail
 go_loopg [6, 18] np (fun gg s6 s18 wx => ∃ j : Nat, j + gg = np ∧ s18 = .int .i64 (j : Nat) ∧ (∃ orr mr cr, s6 = .slice orr mr cr ∧ mr ≤ 1024 * j ∧ Hid (∃ R, R.length = mr ∧ RowsR tt C L (Ps.take j) R ∧ wx.ownsRow B1 67 14 (.slice orr mr cr) mr (flatE encR R))) ∧ Hid (Made B1 W2 wx))
 case atStart => exact ⟨0, by omega, by first | rfl | trivial, ⟨none, 0, 0, rfl, by omega, ⟨[], rfl, RowsR.nil, World.ownsRow_nil _ _ _ _⟩⟩, Made.rfl_ _ _⟩
 case round =>
  obtain ⟨j, hj, rfl, ⟨orr, mr, cr, rfl, hmr, HO⟩, HM⟩ := hrel
  by_cases hjn : j < np
  ·obtain ⟨p, hpj⟩ : ∃ p, Ps[j]? = some p := ⟨_, List.getElem?_eq_getElem (by rw [HNP.out]; exact hjn)⟩
   have HMk : Hid (Made W2.heap.size W2 wr) := by unfold Hid; rw [EB1.out]; exact HM.out
   obtain ⟨bp, offp, eap, hbp, hpc⟩ := HPs2.out (by rw [HNP.out]; omega)
   cases eap
   have q := hpc j p hpj
   have HPj := hid hpj
   obtain ⟨p1, p2⟩ := p
   have q0 : W2.cell? ⟨bp, offp + j * 2, none⟩ = some (.int .i64 p1) := q 0 _ rfl
   have q1 : W2.cell? ⟨bp, offp + j * 2 + 1, none⟩ = some (.int .i64 p2) := q 1 _ rfl
   obtain ⟨og, eog⟩ : ∃ o, offp + j * 2 = o := ⟨_, rfl⟩
   rw [eog] at q0 q1
   have q0 := HMk.out.reads q0
   have q1 := HMk.out.reads q1
   obtain ⟨i1, r1, h1t, h1f, h1c⟩ := HBody.out p1
   obtain ⟨i2, r2, h2t, h2f, h2c⟩ := HBody.out p2
   have H1T := hid h1t; have H1F := hid h1f; have H1C := hid h1c
   have H2T := hid h2t; have H2F := hid h2f; have H2C := hid h2c
   clear h1t h1f h1c h2t h2f h2c q hpc hpj hbp
   go_upto_region 6 with fail
   obtain ⟨W6, e6⟩ : ∃ W, W = wr.alloc (.cells #[.int .i64 p1, .int .i64 p2] 63) := ⟨_, rfl⟩
   obtain ⟨gp, egp⟩ : ∃ g, wr.heap.size = g := ⟨_, rfl⟩
   have k6 : Made wr.heap.size wr W6 := by rw [e6]; exact (Made.rfl_ _ _).cells (Nat.le_refl _) _ _
   have HV6 : Hid (Has W6 gp 63 #[.int .i64 p1, .int .i64 p2]) := by unfold Hid; rw [e6, ← egp]; exact has_new _ _ _
   have M6 : Hid (Made W2.heap.size W2 W6) := HMk.out.then_ (k6.low HMk.out.1.size)
   have HO6 : Hid (∃ R, R.length = mr ∧ RowsR tt C L (Ps.take j) R ∧ W6.ownsRow B1 67 14 (.slice orr mr cr) mr (flatE encR R)) := by
    obtain ⟨R, h0, h1, h2⟩ := HO.out
    exact ⟨R, h0, h1, own_stays h2 k6⟩
   try rw [← e6]
   try rw [egp]
   clear e6 egp k6 q0 q1 HO HM HMk
   -- region 6
   have v0 : W6.cell? ⟨gp, 0, none⟩ = some (.int .i64 p1) := HV6.out.at_ 0
   have HWx := hid (HW2.out.stays M6.out HW2.out.here)
   have HLx := hid (H1C.out W6 (HL2.out.kept M6.out))
   go_wp2_with (refine wpList_load_row rfl 31 (.tmp 2) rfl g0 rfl 31 _ (0, 0) _ HWx.out Tryz.underlying31 rfl hszW ?_)
   refine HLx.out.mono ?_
   rintro e v7 ⟨rfl, k7⟩
   have HV7 := hid (HV6.out.stays k7 HV6.out.here)
   have M7 : Hid (Made W2.heap.size W2 v7) := M6.out.then_ (k7.low M6.out.1.size)
   have HO7 : Hid (∃ R, R.length = mr ∧ RowsR tt C L (Ps.take j) R ∧ v7.ownsRow B1 67 14 (.slice orr mr cr) mr (flatE encR R)) := by
    obtain ⟨R, h0, h1, h2⟩ := HO6.out
    exact ⟨R, h0, h1, own_stays h2 k7⟩
   clear k7 v0 HWx HLx HV6 M6 HO6
   have v1 : v7.cell? ⟨gp, 1, none⟩ = some (.int .i64 p2) := HV7.out.at_ 1
   have HWx := hid (HW2.out.stays M7.out HW2.out.here)
   have HLx := hid (H2C.out v7 (HL2.out.kept M7.out))
   go_wp2_with (refine wpList_load_row rfl 31 (.tmp 2) rfl g0 rfl 31 _ (0, 0) _ HWx.out Tryz.underlying31 rfl hszW ?_)
   refine HLx.out.mono ?_
   rintro e v8 ⟨rfl, k8⟩
   have M8 : Hid (Made W2.heap.size W2 v8) := M7.out.then_ (k8.low M7.out.1.size)
   have HO8 : Hid (∃ R, R.length = mr ∧ RowsR tt C L (Ps.take j) R ∧ v8.ownsRow B1 67 14 (.slice orr mr cr) mr (flatE encR R)) := by
    obtain ⟨R, h0, h1, h2⟩ := HO7.out
    exact ⟨R, h0, h1, own_stays h2 k8⟩
   clear k8 v1 HWx HLx HV7 M7 HO7
   by_cases hr : r1 = true ∧ r2 = true
   ·obtain ⟨rfl, rfl⟩ := hr
    obtain ⟨a, ha, eai⟩ := H1T.out rfl
    obtain ⟨b, hb, ebi⟩ := H2T.out rfl
    have ham := List.mem_of_getElem? ha
    have hbm := List.mem_of_getElem? hb
    have hL0 : 0 < L.length := List.length_pos_of_mem ham
    have hi1 : i1 < n := by rw [← HN.out]; exact (List.getElem?_eq_some_iff.1 ha).1
    have hi2 : i2 < n := by rw [← HN.out]; exact (List.getElem?_eq_some_iff.1 hb).1
    obtain ⟨gb, ob, rfl, hgb, hLB⟩ := HL2.out hL0
    obtain ⟨gm, rfl, hgm, hMB⟩ := HM2.out (by omega)
    have HBT := hid (between_c (tk := tk) (nb := nb) (nj := nj) (gx := gx) (gy := gy) (cb := cb) (cm := cm) (nj' := nj') (cj := cj) (cc := cc) (oj := oj) (w := v8) (hLB.below M8.out.1 hgb) (Nat.lt_of_lt_of_le hgb M8.out.1.size) (hMB.below M8.out.1 hgm) (Nat.lt_of_lt_of_le hgm M8.out.1.size) ha hb hi1 hi2 (HI.out a ham) (HI.out b hbm) (HCt2.out.kept M8.out) HNC.out hncx HUC.out (fun v k => HT2.out (by omega) a b ham hbm v (M8.out.then_ (k.low M8.out.1.size))) (HTI.out (by omega) a ham b hbm) HCI.out)
    have hm1 := (HTI.out (by omega) a ham b hbm).2.2.1
    have HPR : Hid (∀ R', RowsOf C i1 i2 a b ((tt a b).getD noTch).nx ((tt a b).getD noTch).ny ((tt a b).getD noTch).pts R' → PairR tt C L (p1, p2) R') := fun R' h => .inl ⟨i1, i2, a, b, ha, hb, eai, ebi, h⟩
    obtain ⟨m, em⟩ : ∃ x, ((tt a b).getD noTch).pts.length = x := ⟨_, rfl⟩
    rw [em] at HBT hm1
    have EM := hid em
    clear ha hb eai ebi ham hbm hL0 hLB hMB em hgb hgm
    have HWx := hid (HW2.out.stays M8.out HW2.out.here)
    have HCx := hid (HC2.out.stays M8.out HC2.out.here)
    go_wp2_with (first
     | refine wpList_load_row rfl 31 (.tmp 2) rfl g0 rfl 31 _ (0, 0) _ HWx.out Tryz.underlying31 rfl hszW ?_
     | refine wpList_load_row rfl 79 (.tmp 5) rfl gc rfl 79 _ (0, 0) _ HCx.out Tryz.underlying79 rfl hszC ?_)
    refine HBT.out.mono ?_
    rintro e v9 ⟨or9, cr9, R9, rfl, hR9, hw9, k9⟩
    have HPR9 := hid (HPR.out R9 hR9)
    have HR9 : Hid (R9.length = m) := hR9.1.trans EM.out
    have M9 : Hid (Made W2.heap.size W2 v9) := M8.out.then_ (k9.low M8.out.1.size)
    obtain ⟨R, h0, h1, h2⟩ := HO8.out
    have HO9 := hid (own_stays h2 k9)
    have H0 := hid h0; have H1 := hid h1
    have HW9 := hid hw9
    clear h0 h1 h2 hR9 hw9 k9 HO8 M8 HWx HCx HPR HBT
    by_cases hm0 : m = 0
    ·subst hm0
     have e0 : R9 = [] := List.length_eq_zero_iff.1 HR9.out
     subst e0
     go_wp2_with (at_builtin; refine so_wp_append_none rfl (.tmp 40) (.tmp 45) 61 rfl (.slice orr mr cr) (fun ty => so_append_none _ B1 61 ty 67 iO 14 Tryz.underlying61 iHi.out _ mr _ HO9.out or9 cr9) ?_)
     go_roundg (np - (j + 1))
     case measure => omega
     case rel => exact ⟨j + 1, by omega, by go_num, ⟨orr, mr, cr, rfl, by omega, ⟨R, H0.out, by have h := H1.out.snoc HPR9.out; rw [List.append_nil] at h; rw [take_snoc HPj.out]; exact h, HO9.out⟩⟩, by have := M9.out; rw [EB1.out] at this; exact this⟩
    ·obtain ⟨gq, cq, eq, hq1, hq2, hq3, hrow⟩ := RowL.of_own encR_len HR9.out HW9.out (by omega)
     cases eq
     have HNW : Hid (∀ jj u, (flatE encR R9)[jj]? = some u → v9.cell? ((⟨gq, 0, none⟩ : Addr).add jj) = some u) := LsB.newsL encR_len hrow.lsB
     have HLN : Hid ((flatE encR R9).length = m * 14) := by unfold Hid; rw [flatE_len encR_len, HR9.out]
     have HE1 : Hid (∀ u ∈ flatE encR R9, u.oneCell' = true) := flatE_one encR_one R9
     have hsz9 : B1 ≤ v9.heap.size := by have := M9.out.1.size; have := EB1.out; omega
     clear hrow hq1 HW9
     go_wp2_with (at_builtin; refine wpList_append_at rfl (.tmp 40) (.tmp 45) 61 rfl B1 67 iO (.agg #[.int .i64 0, .int .i64 0, .int .i64 0, .int .i64 0, .int .i64 0, .int .i64 0, .int .i64 0, .int .i64 0, .int .i64 0, .int .i64 0, .int .i64 0, .int .i64 0, .int .i64 0, .int .i64 0]) 14 112 Tryz.underlying61 iHi.out iH0.out iH1.out iH2.out rfl (by decide) (.slice orr mr cr) mr (flatE encR R) rfl HO9.out ⟨gq, 0, none⟩ m cr9 (flatE encR R9) rfl HLN.out HNW.out HE1.out (by unfold maxLen; omega) (by omega) hsz9 (by omega) ?_)
     intro v6 w6 hown hbt hnx
     have M10 : Hid (Made B1 W2 w6) := But.made_ (by have := M9.out; rw [EB1.out] at this; exact this) hbt hsz9 (fun b hb => by have := (HO9.out.lt b hb.symm).1; omega)
     rw [flatE_append] at hown
     obtain ⟨om6, cm6, rfl⟩ : ∃ o c, v6 = .slice o (mr + m) c := by
      rcases hown.2 with ⟨_, h⟩ | ⟨g, cap, cur, e, _⟩
      ·omega
      ·exact ⟨_, _, e⟩
     have HO10 : Hid (∃ R, R.length = mr + m ∧ RowsR tt C L (Ps.take (j + 1)) R ∧ w6.ownsRow B1 67 14 (.slice om6 (mr + m) cm6) (mr + m) (flatE encR R)) := ⟨R ++ R9, by rw [List.length_append, H0.out, HR9.out], by rw [take_snoc HPj.out]; exact H1.out.snoc HPR9.out, hown⟩
     clear hown hbt hnx HO9 HNW HLN HE1
     go_wp2_with fail
     go_roundg (np - (j + 1))
     case measure => omega
     case rel => exact ⟨j + 1, by omega, by go_num, ⟨om6, mr + m, cm6, rfl, by omega, HO10.out⟩, M10.out⟩
   ·have HO10 : Hid (∃ R, R.length = mr ∧ RowsR tt C L (Ps.take (j + 1)) R ∧ v8.ownsRow B1 67 14 (.slice orr mr cr) mr (flatE encR R)) := by
     obtain ⟨R, h0, h1, h2⟩ := HO8.out
     refine ⟨R, h0, ?_, h2⟩
     rw [take_snoc HPj.out]
     have h := h1.snoc (p := (p1, p2)) (R' := []) (.inr ⟨rfl, by
      cases r1 with
      | false => exact .inl (H1F.out rfl)
      | true => cases r2 with
       | false => exact .inr (H2F.out rfl)
       | true => exact absurd ⟨rfl, rfl⟩ hr⟩)
     rwa [List.append_nil] at h
    have M10 : Hid (Made B1 W2 v8) := by have := M8.out; rw [EB1.out] at this; exact this
    clear HO8 M8
    cases r1
    ·go_wp2_with fail
     go_roundg (np - (j + 1))
     case measure => omega
     case rel => exact ⟨j + 1, by omega, by go_num, ⟨orr, mr, cr, rfl, by omega, HO10.out⟩, M10.out⟩
    ·cases r2
     ·go_wp2_with fail
      go_roundg (np - (j + 1))
      case measure => omega
      case rel => exact ⟨j + 1, by omega, by go_num, ⟨orr, mr, cr, rfl, by omega, HO10.out⟩, M10.out⟩
     ·exact absurd ⟨rfl, rfl⟩ hr
  ·have e : j = np := by omega
   subst e
   go_wp2_with fail
   go_ret
   obtain ⟨R, h0, h1, h2⟩ := HO.out
   rw [List.take_of_length_le (by rw [HNP.out]; exact Nat.le_refl _)] at h1
   subst h0
   refine ⟨orr, cr, R, rfl, h1, own_low h2 lwB, BW2.out.trans ?_⟩
   exact HM.out.1.mono lwB
end Go.Proofs.YtjhcejmfiekjgaaGreat.Fx
/- Package solve: ties as holds. -/
namespace Go.Proofs.YtjhcejmfiekjgaaGreat.Fx
open Go.ChangeShapes Go.WideShapes Go.ChangeAt Go.RowKit
set_option linter.unusedVariables false
def encTi (t : Ti) : List Value := [.int .i64 (t.a : Nat), .int .i64 (t.b : Nat), .int .i64 t.n.1, .int .i64 t.n.2, .int .i64 t.ra.1, .int .i64 t.ra.2, .int .i64 t.rb.1, .int .i64 t.rb.2, .int .i64 t.g, .int .i64 t.off]
theorem encTi_len (t : Ti) : (encTi t).length = 10 := rfl
def encHo (gb : Nat) (h : Ti × Lk) : List Value := encTi h.1 ++ encL gb h.2
theorem encHo_len (gb : Nat) (h : Ti × Lk) : (encHo gb h).length = 24 := rfl
def hoOf (L : List Bd) (t : Ti) : Ti × Lk := (t, lkOf L t.a t.b t.ra t.rb)
def holdL (L : List Bd) (T : List Ti) : List (Ti × Lk) := T.map (hoOf L)
theorem hold_at {L : List Bd} {T : List Ti} {i : Nat} {t : Ti} (h : T[i]? = some t) : (holdL L T)[i]? = some (hoOf L t) := by
 unfold holdL; rw [List.getElem?_map, h]; rfl
theorem hold_len (L : List Bd) (T : List Ti) : (holdL L T).length = T.length := by unfold holdL; simp
theorem infoHo : (Tryz.prog.info? 114).map (fun i => (i.zero, i.size, i.bytes)) = some (some (.agg #[.int .i64 0, .int .i64 0, .int .i64 0, .int .i64 0, .int .i64 0, .int .i64 0, .int .i64 0, .int .i64 0, .int .i64 0, .int .i64 0, .pointer none, .pointer none, .int .i64 0, .int .i64 0, .int .i64 0, .int .i64 0, .int .i64 0, .int .i64 0, .int .i64 0, .int .i64 0, .int .i64 0, .int .i64 0, .int .i64 0, .int .i64 0]), 24, 192) := by kernel_rfl
theorem encHo_one (gb : Nat) (h : Ti × Lk) : ∀ v ∈ encHo gb h, v.oneCell' = true := by
 intro v hv; simp [encHo, encTi, encL] at hv; rcases hv with rfl | rfl | rfl | rfl | rfl | rfl | rfl | rfl | rfl | rfl | rfl | rfl | rfl | rfl | rfl | rfl | rfl | rfl | rfl | rfl | rfl | rfl | rfl | rfl <;> rfl
theorem LsB.elt {α : Type} {enc : α → List Value} {k : Nat} {w : World} {b off : Nat} {l : List α} (h : LsB enc k w b off l) {i : Nat} {x : α} (hx : l[i]? = some x) : ∀ j u, (enc x)[j]? = some u → w.cell? ⟨b, off + i * k + j, none⟩ = some u := fun j u hu => h i x hx j u hu
theorem holds_c {gb gm gt ot n m cb cm ct : Nat} {L : List Bd} {R : List Ti} {w : World} (hM : LsB encM 4 w gm 0 L) (hgm : gm < w.heap.size) (hn : L.length = n) (hR : LsB encTi 10 w gt ot R) (hgt : gt < w.heap.size) (hRm : R.length = m) (hv : ∀ r ∈ R, r.a < n ∧ r.b < n) (hmx : m ≤ 1073741824) (hcr : m ≤ ct) (hcm : ct ≤ maxLen) :
  Calls Tryz.prog 45 #[.agg #[.slice (some ⟨gb, 0, none⟩) n cb, .slice (some ⟨gm, 0, none⟩) n cm], .slice (some ⟨gt, ot, none⟩) m ct] w fun e w' => ∃ op cp, e = .returned (.slice op m cp) ∧ Made w.heap.size w w' ∧ w'.ownsRow w.heap.size 114 24 (.slice op m cp) m (flatE (encHo gb) (holdL L R)) := by
 have HN := hid hn
 have HRm := hid hRm
 have HM := hid (fun v (k : Made w.heap.size w v) => hM.below k.1 hgm)
 have HR := hid (fun v (k : Made w.heap.size w v) => hR.below k.1 hgt)
 have HV := hid hv
 obtain ⟨iO, hiO, hz0, hz1, hz2⟩ := info_parts infoHo
 have iHi := hid hiO; have iH0 := hid hz0; have iH1 := hid hz1; have iH2 := hid hz2
 have HW0 : Hid (Has (w.alloc (.cells #[.slice (some ⟨gb, 0, none⟩) n cb, .slice (some ⟨gm, 0, none⟩) n cm] 79)) w.heap.size 79 #[.slice (some ⟨gb, 0, none⟩) n cb, .slice (some ⟨gm, 0, none⟩) n cm]) := has_new _ _ _
 have HB0 : Hid (Made w.heap.size w (w.alloc (.cells #[.slice (some ⟨gb, 0, none⟩) n cb, .slice (some ⟨gm, 0, none⟩) n cm] 79))) := (Made.rfl_ _ _).cells (Nat.le_refl _) _ _
 obtain ⟨g0, eg0⟩ : ∃ g, w.heap.size = g := ⟨_, rfl⟩
 rw [eg0] at HW0
 clear hM hn hR hv hiO hz0 hz1 hz2 hRm
 go_enter Tryz.func45, Tryz.ntmps45
 go_wp2_with fail
 go_loopg [5, 12] m (fun gg s5 s12 wx => ∃ k : Nat, k + gg = m ∧ s12 = .int .i64 (k : Nat) ∧ (∃ op cp, s5 = .slice op k cp ∧ Hid (wx.ownsRow g0 114 24 (.slice op k cp) k (flatE (encHo gb) ((holdL L R).take k)))) ∧ Hid (Has wx g0 79 #[.slice (some ⟨gb, 0, none⟩) n cb, .slice (some ⟨gm, 0, none⟩) n cm]) ∧ Hid (Made w.heap.size w wx))
 case atStart => exact ⟨0, by omega, by first | rfl | trivial, ⟨none, 0, rfl, World.ownsRow_nil _ _ _ _⟩, HW0.out, HB0.out⟩
 case round =>
  obtain ⟨k, hk, rfl, ⟨op, cp, rfl, HO⟩, HC, HB⟩ := hrel
  clear HW0 HB0
  by_cases hkm : k < m
  ·obtain ⟨r, hr⟩ : ∃ r, R[k]? = some r := ⟨_, List.getElem?_eq_getElem (by rw [HRm.out]; exact hkm)⟩
   obtain ⟨hva, hvb⟩ := HV.out r (List.mem_of_getElem? hr)
   have HPx := hid (hold_at (L := L) hr)
   have hRx := (HR.out wr HB.out).elt hr
   obtain ⟨x, hx⟩ : ∃ x, L[r.a]? = some x := ⟨_, List.getElem?_eq_getElem (by rw [HN.out]; exact hva)⟩
   obtain ⟨y, hy⟩ : ∃ y, L[r.b]? = some y := ⟨_, List.getElem?_eq_getElem (by rw [HN.out]; exact hvb)⟩
   obtain ⟨oa, eoa⟩ : ∃ o, r.a * 11 = o := ⟨_, rfl⟩
   obtain ⟨ob, eob⟩ : ∃ o, r.b * 11 = o := ⟨_, rfl⟩
   obtain ⟨og, eog⟩ : ∃ o, ot + k * 10 = o := ⟨_, rfl⟩
   have q0 := hRx 0 _ rfl
   have q1 := hRx 1 _ rfl
   have q2 := hRx 2 _ rfl
   have q3 := hRx 3 _ rfl
   have q4 := hRx 4 _ rfl
   have q5 := hRx 5 _ rfl
   have q6 := hRx 6 _ rfl
   have q7 := hRx 7 _ rfl
   have q8 := hRx 8 _ rfl
   have q9 := hRx 9 _ rfl
   rw [eog] at q0 q1 q2 q3 q4 q5 q6 q7 q8 q9
   rw [Nat.add_zero] at q0
   obtain ⟨i, ei⟩ : ∃ i, r.a = i := ⟨_, rfl⟩
   obtain ⟨j, ej⟩ : ∃ j, r.b = j := ⟨_, rfl⟩
   obtain ⟨nx, e2⟩ : ∃ z, r.n.1 = z := ⟨_, rfl⟩
   obtain ⟨ny, e3⟩ : ∃ z, r.n.2 = z := ⟨_, rfl⟩
   obtain ⟨rax, e5⟩ : ∃ z, r.ra.1 = z := ⟨_, rfl⟩
   obtain ⟨ray, e6⟩ : ∃ z, r.ra.2 = z := ⟨_, rfl⟩
   obtain ⟨rbx, e7⟩ : ∃ z, r.rb.1 = z := ⟨_, rfl⟩
   obtain ⟨rby, e8⟩ : ∃ z, r.rb.2 = z := ⟨_, rfl⟩
   obtain ⟨tg, e9⟩ : ∃ z, r.g = z := ⟨_, rfl⟩
   obtain ⟨tf, e10⟩ : ∃ z, r.off = z := ⟨_, rfl⟩
   rw [ei] at q0 hva hx eoa
   rw [ej] at q1 hvb hy eob
   rw [e2] at q2; rw [e3] at q3; rw [e5] at q4; rw [e6] at q5; rw [e7] at q6; rw [e8] at q7; rw [e9] at q8; rw [e10] at q9
   have HLK : Hid (encHo gb (hoOf L r) = [.int .i64 (i : Nat), .int .i64 (j : Nat), .int .i64 nx, .int .i64 ny, .int .i64 rax, .int .i64 ray, .int .i64 rbx, .int .i64 rby, .int .i64 tg, .int .i64 tf, .pointer (some ⟨gb, oa, none⟩), .pointer (some ⟨gb, ob, none⟩), .int .i64 (mA x), .int .i64 (mI x), .int .i64 (moveB x), .int .i64 (spinB x), .int .i64 (mA y), .int .i64 (mI y), .int .i64 (moveB y), .int .i64 (spinB y), .int .i64 rax, .int .i64 ray, .int .i64 rbx, .int .i64 rby]) := by
    unfold Hid encHo hoOf lkOf encL encTi
    simp only
    rw [ei, ej, bdAt_is hx, bdAt_is hy, e2, e3, e5, e6, e7, e8, e9, e10, eoa, eob]
    rfl
   have HLC := hid (fun v (k2 : Made wr.heap.size wr v) => link_c (gb := gb) (ob := 0) (cb := cb) (cm := cm) (oa := oa) (ok := ob) rax ray rbx rby v ((HM.out v (HB.out.then_ (k2.low HB.out.1.size)))) hx hy hva hvb (by omega) (by omega))
   clear hr hRx hx hy ei ej e2 e3 e5 e6 e7 e8 e9 e10 eoa eob
   obtain ⟨A0, a0⟩ : ∃ z, mA x = z := ⟨_, rfl⟩
   obtain ⟨A1, a1⟩ : ∃ z, mI x = z := ⟨_, rfl⟩
   obtain ⟨A2, a2⟩ : ∃ z, moveB x = z := ⟨_, rfl⟩
   obtain ⟨A3, a3⟩ : ∃ z, spinB x = z := ⟨_, rfl⟩
   obtain ⟨B0, b0⟩ : ∃ z, mA y = z := ⟨_, rfl⟩
   obtain ⟨B1, b1⟩ : ∃ z, mI y = z := ⟨_, rfl⟩
   obtain ⟨B2, b2⟩ : ∃ z, moveB y = z := ⟨_, rfl⟩
   obtain ⟨B3, b3⟩ : ∃ z, spinB y = z := ⟨_, rfl⟩
   rw [a0, a1, a2, a3, b0, b1, b2, b3] at HLC HLK
   clear a0 a1 a2 a3 b0 b1 b2 b3
   go_upto_region 5 with fail
   obtain ⟨W4, e4⟩ : ∃ V, V = wr.alloc (.cells #[.int .i64 (i : Nat), .int .i64 (j : Nat), .int .i64 nx, .int .i64 ny, .int .i64 rax, .int .i64 ray, .int .i64 rbx, .int .i64 rby, .int .i64 tg, .int .i64 tf] 38) := ⟨_, rfl⟩
   obtain ⟨g7, eg7⟩ : ∃ g, wr.heap.size = g := ⟨_, rfl⟩
   have HX4 : Hid (Has W4 g7 38 #[.int .i64 (i : Nat), .int .i64 (j : Nat), .int .i64 nx, .int .i64 ny, .int .i64 rax, .int .i64 ray, .int .i64 rbx, .int .i64 rby, .int .i64 tg, .int .i64 tf]) := by unfold Hid; rw [e4, ← eg7]; exact has_new _ _ _
   have k4 : Made wr.heap.size wr W4 := by rw [e4]; exact (Made.rfl_ _ _).cells (Nat.le_refl _) _ _
   have HO4 := hid (own_stays HO.out k4)
   have HC4 := hid (HC.out.stays k4 HC.out.here)
   have HB4 : Hid (Made w.heap.size w W4) := HB.out.then_ (k4.low HB.out.1.size)
   have HLC4 := hid (HLC.out W4 k4)
   have lg70 : g0 < g7 := by have := HC.out.here; omega
   try rw [← e4]
   try rw [eg7]
   have c0 : W4.cell? ⟨g0, 0, none⟩ = some (.slice (some ⟨gb, 0, none⟩) n cb) := by rw [HC4.out.at_]; rfl
   have c1 : W4.cell? ⟨g0, 1, none⟩ = some (.slice (some ⟨gm, 0, none⟩) n cm) := by rw [HC4.out.at_]; rfl
   have t0 : W4.cell? ⟨g7, 0, none⟩ = some (.int .i64 (i : Nat)) := by rw [HX4.out.at_]; rfl
   have t1 : W4.cell? ⟨g7, 1, none⟩ = some (.int .i64 (j : Nat)) := by rw [HX4.out.at_]; rfl
   have t4 : W4.cell? ⟨g7, 4, none⟩ = some (.int .i64 rax) := by rw [HX4.out.at_]; rfl
   have t5 : W4.cell? ⟨g7, 5, none⟩ = some (.int .i64 ray) := by rw [HX4.out.at_]; rfl
   have t6 : W4.cell? ⟨g7, 6, none⟩ = some (.int .i64 rbx) := by rw [HX4.out.at_]; rfl
   have t7 : W4.cell? ⟨g7, 7, none⟩ = some (.int .i64 rby) := by rw [HX4.out.at_]; rfl
   clear e4 k4 HO HC HB HLC q0 q1 q2 q3 q4 q5 q6 q7 q8 q9
   go_wp2_with fail
   refine HLC4.out.mono ?_
   rintro e v ⟨rfl, k8⟩
   have HX8 := hid (HX4.out.stays k8 HX4.out.here)
   have HO8 := hid (own_stays HO4.out k8)
   have HC8 := hid (HC4.out.stays k8 HC4.out.here)
   have HB8 : Hid (Made w.heap.size w v) := HB4.out.then_ (k8.low HB4.out.1.size)
   have lg7v : g7 < v.heap.size := HX8.out.here
   clear k8 c0 c1 t0 t1 t4 t5 t6 t7 HX4 HO4 HC4 HB4 HLC4
   have hh8 : Has (v.alloc (.cells #[.pointer none, .pointer none, .int .i64 0, .int .i64 0, .int .i64 0, .int .i64 0, .int .i64 0, .int .i64 0, .int .i64 0, .int .i64 0, .int .i64 0, .int .i64 0, .int .i64 0, .int .i64 0] 110)) v.heap.size 110 #[.pointer none, .pointer none, .int .i64 0, .int .i64 0, .int .i64 0, .int .i64 0, .int .i64 0, .int .i64 0, .int .i64 0, .int .i64 0, .int .i64 0, .int .i64 0, .int .i64 0, .int .i64 0] := has_new _ _ _
   have hsz : (Tryz.prog.info? 110).map (·.size) = some 14 := by kernel_rfl
   have hszt : (Tryz.prog.info? 38).map (·.size) = some 10 := by kernel_rfl
   go_upto_region 6 with (refine wpList_store_row rfl 110 (.tmp 8) (.tmp 27) rfl v.heap.size #[.pointer (some ⟨gb, oa, none⟩), .pointer (some ⟨gb, ob, none⟩), .int .i64 A0, .int .i64 A1, .int .i64 A2, .int .i64 A3, .int .i64 B0, .int .i64 B1, .int .i64 B2, .int .i64 B3, .int .i64 rax, .int .i64 ray, .int .i64 rbx, .int .i64 rby] rfl rfl 110 _ hh8 hsz rfl (by simp [Value.oneCell']) ?_)
   obtain ⟨W9, e9⟩ : ∃ V, V = (v.alloc (.cells #[.pointer none, .pointer none, .int .i64 0, .int .i64 0, .int .i64 0, .int .i64 0, .int .i64 0, .int .i64 0, .int .i64 0, .int .i64 0, .int .i64 0, .int .i64 0, .int .i64 0, .int .i64 0] 110)).setRow v.heap.size #[.pointer (some ⟨gb, oa, none⟩), .pointer (some ⟨gb, ob, none⟩), .int .i64 A0, .int .i64 A1, .int .i64 A2, .int .i64 A3, .int .i64 B0, .int .i64 B1, .int .i64 B2, .int .i64 B3, .int .i64 rax, .int .i64 ray, .int .i64 rbx, .int .i64 rby] := ⟨_, rfl⟩
   obtain ⟨g8, eg8⟩ : ∃ g, v.heap.size = g := ⟨_, rfl⟩
   have HX9 : Hid (Has W9 g8 110 #[.pointer (some ⟨gb, oa, none⟩), .pointer (some ⟨gb, ob, none⟩), .int .i64 A0, .int .i64 A1, .int .i64 A2, .int .i64 A3, .int .i64 B0, .int .i64 B1, .int .i64 B2, .int .i64 B3, .int .i64 rax, .int .i64 ray, .int .i64 rbx, .int .i64 rby]) := by unfold Hid; rw [e9, ← eg8]; exact setRow_heap _ _ _ _ _ _ hh8
   have k9 : Made v.heap.size v W9 := by rw [e9]; exact ((Made.rfl_ _ _).cells (Nat.le_refl _) _ _).setRow (Nat.le_refl _) _
   have HT9 := hid (HX8.out.stays k9 HX8.out.here)
   have HO9 := hid (own_stays HO8.out k9)
   have HC9 := hid (HC8.out.stays k9 HC8.out.here)
   have HB9 : Hid (Made w.heap.size w W9) := HB8.out.then_ (k9.low HB8.out.1.size)
   try rw [← e9]
   try rw [eg8]
   clear e9 hh8 k9 HX8 HO8 HC8 HB8 eg8 lg7v
   have HOw : Hid ((W9.alloc (.cells #[.int .i64 (i : Nat), .int .i64 (j : Nat), .int .i64 nx, .int .i64 ny, .int .i64 rax, .int .i64 ray, .int .i64 rbx, .int .i64 rby, .int .i64 tg, .int .i64 tf, .pointer (some ⟨gb, oa, none⟩), .pointer (some ⟨gb, ob, none⟩), .int .i64 A0, .int .i64 A1, .int .i64 A2, .int .i64 A3, .int .i64 B0, .int .i64 B1, .int .i64 B2, .int .i64 B3, .int .i64 rax, .int .i64 ray, .int .i64 rbx, .int .i64 rby] 114)).ownsRow g0 114 24 (.slice op k cp) k (flatE (encHo gb) ((holdL L R).take k))) := HO9.out.alloc _
   have HNb : Hid (Has (W9.alloc (.cells #[.int .i64 (i : Nat), .int .i64 (j : Nat), .int .i64 nx, .int .i64 ny, .int .i64 rax, .int .i64 ray, .int .i64 rbx, .int .i64 rby, .int .i64 tg, .int .i64 tf, .pointer (some ⟨gb, oa, none⟩), .pointer (some ⟨gb, ob, none⟩), .int .i64 A0, .int .i64 A1, .int .i64 A2, .int .i64 A3, .int .i64 B0, .int .i64 B1, .int .i64 B2, .int .i64 B3, .int .i64 rax, .int .i64 ray, .int .i64 rbx, .int .i64 rby] 114)) W9.heap.size 114 #[.int .i64 (i : Nat), .int .i64 (j : Nat), .int .i64 nx, .int .i64 ny, .int .i64 rax, .int .i64 ray, .int .i64 rbx, .int .i64 rby, .int .i64 tg, .int .i64 tf, .pointer (some ⟨gb, oa, none⟩), .pointer (some ⟨gb, ob, none⟩), .int .i64 A0, .int .i64 A1, .int .i64 A2, .int .i64 A3, .int .i64 B0, .int .i64 B1, .int .i64 B2, .int .i64 B3, .int .i64 rax, .int .i64 ray, .int .i64 rbx, .int .i64 rby]) := has_new _ _ _
   have HCw : Hid (Has (W9.alloc (.cells #[.int .i64 (i : Nat), .int .i64 (j : Nat), .int .i64 nx, .int .i64 ny, .int .i64 rax, .int .i64 ray, .int .i64 rbx, .int .i64 rby, .int .i64 tg, .int .i64 tf, .pointer (some ⟨gb, oa, none⟩), .pointer (some ⟨gb, ob, none⟩), .int .i64 A0, .int .i64 A1, .int .i64 A2, .int .i64 A3, .int .i64 B0, .int .i64 B1, .int .i64 B2, .int .i64 B3, .int .i64 rax, .int .i64 ray, .int .i64 rbx, .int .i64 rby] 114)) g0 79 #[.slice (some ⟨gb, 0, none⟩) n cb, .slice (some ⟨gm, 0, none⟩) n cm]) := HC9.out.more _
   have HBw : Hid (Made w.heap.size w (W9.alloc (.cells #[.int .i64 (i : Nat), .int .i64 (j : Nat), .int .i64 nx, .int .i64 ny, .int .i64 rax, .int .i64 ray, .int .i64 rbx, .int .i64 rby, .int .i64 tg, .int .i64 tf, .pointer (some ⟨gb, oa, none⟩), .pointer (some ⟨gb, ob, none⟩), .int .i64 A0, .int .i64 A1, .int .i64 A2, .int .i64 A3, .int .i64 B0, .int .i64 B1, .int .i64 B2, .int .i64 B3, .int .i64 rax, .int .i64 ray, .int .i64 rbx, .int .i64 rby] 114))) := HB9.out.cells HB9.out.1.size _ _
   have hs5 : g0 ≤ W9.heap.size := by rw [← eg0]; exact HB9.out.1.size
   have HE1 : Hid (∀ u ∈ ([.int .i64 (i : Nat), .int .i64 (j : Nat), .int .i64 nx, .int .i64 ny, .int .i64 rax, .int .i64 ray, .int .i64 rbx, .int .i64 rby, .int .i64 tg, .int .i64 tf, .pointer (some ⟨gb, oa, none⟩), .pointer (some ⟨gb, ob, none⟩), .int .i64 A0, .int .i64 A1, .int .i64 A2, .int .i64 A3, .int .i64 B0, .int .i64 B1, .int .i64 B2, .int .i64 B3, .int .i64 rax, .int .i64 ray, .int .i64 rbx, .int .i64 rby] : List Value), u.oneCell' = true) := by unfold Hid; rw [← HLK.out]; exact encHo_one gb _
   go_wp2_with (first
    | refine wpList_load_row rfl 38 (.tmp 7) rfl g7 rfl 38 _ (0, 0) _ HT9.out Tryz.underlying38 rfl hszt ?_
    | refine wpList_load_row rfl 110 (.tmp 8) rfl g8 rfl 110 _ (0, 0) _ HX9.out Tryz.underlying110 rfl hsz ?_
    | (at_builtin; refine wpList_append_at rfl (.tmp 30) (.tmp 34) 105 rfl g0 114 iO (.agg #[.int .i64 0, .int .i64 0, .int .i64 0, .int .i64 0, .int .i64 0, .int .i64 0, .int .i64 0, .int .i64 0, .int .i64 0, .int .i64 0, .pointer none, .pointer none, .int .i64 0, .int .i64 0, .int .i64 0, .int .i64 0, .int .i64 0, .int .i64 0, .int .i64 0, .int .i64 0, .int .i64 0, .int .i64 0, .int .i64 0, .int .i64 0]) 24 192 Tryz.underlying105 iHi.out iH0.out iH1.out iH2.out rfl (by decide) (.slice op k cp) k (flatE (encHo gb) ((holdL L R).take k)) rfl HOw.out ⟨W9.heap.size, 0, none⟩ 1 1 [.int .i64 (i : Nat), .int .i64 (j : Nat), .int .i64 nx, .int .i64 ny, .int .i64 rax, .int .i64 ray, .int .i64 rbx, .int .i64 rby, .int .i64 tg, .int .i64 tf, .pointer (some ⟨gb, oa, none⟩), .pointer (some ⟨gb, ob, none⟩), .int .i64 A0, .int .i64 A1, .int .i64 A2, .int .i64 A3, .int .i64 B0, .int .i64 B1, .int .i64 B2, .int .i64 B3, .int .i64 rax, .int .i64 ray, .int .i64 rbx, .int .i64 rby] rfl rfl (has_news HNb.out) HE1.out (by unfold maxLen; omega) (by omega) (by simp; omega) (by omega) ?_))
   intro v6 w6 hown hbt hnx
   have hg0n : some g0 ≠ (Value.slice op k cp).ownBlock := own_apart HOw.out HCw.out (by decide)
   have HC6 := hid (HCw.out.but hbt hg0n)
   have HB6 : Hid (Made w.heap.size w w6) := But.made_ HBw.out hbt (by simp; omega) (fun b hb => by have := (HOw.out.lt b hb.symm).1; omega)
   rw [← HLK.out, flatE_snoc, ← take_snoc HPx.out] at hown
   obtain ⟨om6, cm6, rfl⟩ : ∃ o c, v6 = .slice o (k + 1) c := by
    rcases hown.2 with ⟨_, h⟩ | ⟨g, cap, cur, e, _⟩
    ·omega
    ·exact ⟨_, _, e⟩
   have HO6 := hid hown
   clear hown hbt hnx hg0n HOw HNb HCw HBw HO9 HC9 HB9 HX9 HT9
   go_wp2_with fail
   go_roundg (m - (k + 1))
   case measure => omega
   case rel => exact ⟨k + 1, by omega, by go_num, ⟨om6, cm6, rfl, HO6.out⟩, HC6.out, HB6.out⟩
  ·have e : k = m := by omega
   subst e
   go_wp2_with fail
   go_ret
   refine ⟨op, cp, rfl, HB.out, ?_⟩
   rw [eg0]
   have h := HO.out
   rw [List.take_of_length_le (by rw [hold_len, HRm.out]; exact Nat.le_refl _)] at h
   exact h
end Go.Proofs.YtjhcejmfiekjgaaGreat.Fx
/- Package solve: the ties of joints. -/
namespace Go.Proofs.YtjhcejmfiekjgaaGreat.Fx
open Go.ChangeShapes Go.WideShapes Go.ChangeAt Go.RowKit
set_option linter.unusedVariables false
inductive TiesR (ff : Nat → Nat → Bd → Bd → Jt → Ti) (L : List Bd) : List Jt → List Ti → Prop
 | nil : TiesR ff L [] []
 | snoc {js j T i k a b} : TiesR ff L js T → L[i]? = some a → L[k]? = some b → a.id = j.a → b.id = j.b → TiesR ff L (js ++ [j]) (T ++ [ff i k a b j])
theorem TiesR.len {ff : Nat → Nat → Bd → Bd → Jt → Ti} {L : List Bd} {J : List Jt} {T : List Ti} (h : TiesR ff L J T) : T.length = J.length := by
 induction h with
 | nil => rfl
 | snoc _ _ _ _ _ ih => rw [List.length_append, List.length_append, ih]; rfl
theorem infoTi : (Tryz.prog.info? 38).map (fun i => (i.zero, i.size, i.bytes)) = some (some (.agg #[.int .i64 0, .int .i64 0, .int .i64 0, .int .i64 0, .int .i64 0, .int .i64 0, .int .i64 0, .int .i64 0, .int .i64 0, .int .i64 0]), 10, 80) := by kernel_rfl
theorem ties_c (ff : Nat → Nat → Bd → Bd → Jt → Ti) {tk nb nj gx gy : Int} {L : List Bd} {J : List Jt} {ao oj oc : Option Addr} {n cb np cp nc cc : Nat} {w : World}
  (hn : L.length = n) (hl : LsT encB 11 w ao L) (ho : SlOk ao n cb) (hI : ∀ b ∈ L, BdI b) (hP : ∀ b ∈ L, BodyP b) (hS : ∀ b ∈ L, Sl w b.ao b.n b.f) (hmx : n ≤ 1073741824) (hup : (L.map (·.id)).Pairwise (· < ·))
  (hj : LsT encJ 8 w oj J) (hnj : J.length = np) (hnpx : np ≤ 1073741824) (hJI : ∀ j ∈ J, JtI j) (hJP : ∀ j ∈ J, (∃ x ∈ L, x.id = j.a) ∧ ∃ x ∈ L, x.id = j.b)
  (hT : ∀ (gb ob gm cm i k : Nat) (a b : Bd) (j : Jt) (v : World), LsB encB 11 v gb ob L → gb < v.heap.size → LsB encM 4 v gm 0 L → gm < v.heap.size → L[i]? = some a → L[k]? = some b → i < n → k < n → JtI j → BdI a → BdI b →
   Calls Tryz.prog 25 #[.agg #[.slice (some ⟨gb, ob, none⟩) n cb, .slice (some ⟨gm, 0, none⟩) n cm], jtV j, .int .i64 (i : Nat), .int .i64 (k : Nat)] v fun e u => e = .returned (.agg (encTi (ff i k a b j)).toArray) ∧ Made v.heap.size v u) :
  Calls Tryz.prog 6 #[.agg #[.int .i64 tk, .int .i64 nb, .int .i64 nj, .int .i64 gx, .int .i64 gy, .slice ao n cb, .slice oj np cp, .slice oc nc cc]] w fun e v => ∃ orr cr T, e = .returned (.slice orr np cr) ∧ TiesR ff L J T ∧ v.ownsRow w.heap.size 38 10 (.slice orr np cr) np (flatE encTi T) ∧ Below w.heap.size w v := by
 obtain ⟨W0, eW⟩ : ∃ W, W = w.alloc (.cells #[.int .i64 tk, .int .i64 nb, .int .i64 nj, .int .i64 gx, .int .i64 gy, .slice ao n cb, .slice oj np cp, .slice oc nc cc] 31) := ⟨_, rfl⟩
 have hW0 : Has W0 w.heap.size 31 #[.int .i64 tk, .int .i64 nb, .int .i64 nj, .int .i64 gx, .int .i64 gy, .slice ao n cb, .slice oj np cp, .slice oc nc cc] := by rw [eW]; exact has_new _ _ _
 have m0 : Made w.heap.size w W0 := by rw [eW]; exact (Made.rfl_ _ _).cells (Nat.le_refl _) _ _
 have c5 : W0.cell? ⟨w.heap.size, 5, none⟩ = some (.slice ao n cb) := by rw [hW0.at_]; rfl
 have HWE := hid (weighed_c (w := W0) hn (hl.below m0.1) ho hI hP (fun b hb => Sl.blw (hS b hb) m0.1) hmx)
 obtain ⟨g0, eg0⟩ : ∃ g, w.heap.size = g := ⟨_, rfl⟩
 have HW0 := hid hW0
 have M0 := hid m0
 rw [eg0] at HW0 c5
 go_enter Tryz.func6, Tryz.ntmps6
 go_upto_region 1 with fail
 rw [← eW]
 try rw [eg0]
 clear eW
 go_wp2_with fail
 refine HWE.out.mono ?_
 rintro e w1 ⟨om, cm, rfl, k1, hmass⟩
 obtain ⟨W2, eW2⟩ : ∃ W, W = w1.alloc (.cells #[.slice ao n cb, .slice om n cm] 79) := ⟨_, rfl⟩
 obtain ⟨gc, egc⟩ : ∃ g, w1.heap.size = g := ⟨_, rfl⟩
 have kk2 : Below W0.heap.size W0 W2 := k1.trans (by rw [eW2]; exact ((Made.rfl_ _ _).cells (Nat.le_refl _) _ _).1.mono k1.size)
 have HW2 : Hid (Has W2 g0 31 #[.int .i64 tk, .int .i64 nb, .int .i64 nj, .int .i64 gx, .int .i64 gy, .slice ao n cb, .slice oj np cp, .slice oc nc cc]) := HW0.out.below kk2 HW0.out.here
 have HC2 : Hid (Has W2 gc 79 #[.slice ao n cb, .slice om n cm]) := by unfold Hid; rw [eW2, ← egc]; exact has_new _ _ _
 have BW2 : Hid (Below w.heap.size w W2) := m0.1.trans (kk2.mono m0.1.size)
 have HL2 : Hid (LsT encB 11 W2 ao L) := hl.below BW2.out
 have HJs2 : Hid (LsT encJ 8 W2 oj J) := hj.below BW2.out
 have HM2 : Hid (0 < n → ∃ gm, om = some ⟨gm, 0, none⟩ ∧ gm < W2.heap.size ∧ LsB encM 4 W2 gm 0 L) := fun h0 => by
  obtain ⟨gm, cm', em, _, _, _, hrm⟩ := RowL.of_own encM_len hn hmass h0
  cases em
  have h2 : RowL encM 4 W2 gm _ n L := RowL.stays hrm (B := w1.heap.size) (by rw [eW2]; exact (Made.rfl_ _ _).cells (Nat.le_refl _) _ _) hrm.here
  exact ⟨gm, rfl, h2.here, h2.lsB⟩
 have HBody : Hid (∀ id, _) := fun id => wbody_so tk nb nj gx gy oj oc np cp nc cc (c := cb) id hn hmx hup (ao := ao)
 have HT2 := hid hT; have HI := hid hI; have HJI := hid hJI; have HJP := hid hJP; have HN := hid hn; have HNJ := hid hnj
 obtain ⟨iO, hiO, hz0, hz1, hz2⟩ := info_parts infoTi
 have iHi := hid hiO; have iH0 := hid hz0; have iH1 := hid hz1; have iH2 := hid hz2
 have lwB : w.heap.size ≤ W2.heap.size := BW2.out.size
 obtain ⟨B1, eB1⟩ : ∃ B, W2.heap.size = B := ⟨_, rfl⟩
 have EB1 := hid eB1
 have l0 : g0 < B1 := by rw [← eB1]; exact HW2.out.here
 have lc : gc < B1 := by rw [← eB1]; exact HC2.out.here
 rw [eB1] at lwB
 clear hn hl ho hI hP hS hup hj hnj hJI hJP hT hW0 m0 c5 HWE HW0 M0 k1 hmass kk2 hiO hz0 hz1 hz2 eB1
 have hszW : (Tryz.prog.info? 31).map (·.size) = some 8 := by kernel_rfl
 have hszC : (Tryz.prog.info? 79).map (·.size) = some 2 := by kernel_rfl
 have hszJ : (Tryz.prog.info? 36).map (·.size) = some 8 := by kernel_rfl
 go_upto_region 3 with fail
 try rw [← eW2]
 try rw [egc]
 clear eW2 egc
 have c6 : W2.cell? ⟨g0, 6, none⟩ = some (.slice oj np cp) := HW2.out.at_ 6
 go_wp2_with fail
 clear c6
 go_loopg [4, 17] np (fun gg s4 s17 wx => ∃ m : Nat, m + gg = np ∧ s17 = .int .i64 (m : Nat) ∧ (∃ orr cr, s4 = .slice orr m cr ∧ Hid (∃ T, TiesR ff L (J.take m) T ∧ wx.ownsRow B1 38 10 (.slice orr m cr) m (flatE encTi T))) ∧ Hid (Made B1 W2 wx))
 case atStart => exact ⟨0, by omega, by first | rfl | trivial, ⟨none, 0, rfl, ⟨[], TiesR.nil, World.ownsRow_nil _ _ _ _⟩⟩, Made.rfl_ _ _⟩
 case round =>
  obtain ⟨m, hm, rfl, ⟨orr, cr, rfl, HO⟩, HM⟩ := hrel
  by_cases hmn : m < np
  ·obtain ⟨j, hjm⟩ : ∃ j, J[m]? = some j := ⟨_, List.getElem?_eq_getElem (by rw [HNJ.out]; exact hmn)⟩
   have HMk : Hid (Made W2.heap.size W2 wr) := by unfold Hid; rw [EB1.out]; exact HM.out
   obtain ⟨bp, offp, eap, hbp, hpc⟩ := HJs2.out (by rw [HNJ.out]; omega)
   cases eap
   have q := hpc m j hjm
   have HJm := hid hjm
   have hji := HJI.out j (List.mem_of_getElem? hjm)
   obtain ⟨⟨xa, hxa, exa⟩, xb, hxb, exb⟩ := HJP.out j (List.mem_of_getElem? hjm)
   obtain ⟨jid, ja, jb, jax, jay, jtx, jty, jln⟩ := j
   have q0 := HMk.out.reads (show W2.cell? ⟨bp, offp + m * 8, none⟩ = some (.int .i64 jid) from q 0 _ rfl)
   have q1 := HMk.out.reads (show W2.cell? ⟨bp, offp + m * 8 + 1, none⟩ = some (.int .i64 ja) from q 1 _ rfl)
   have q2 := HMk.out.reads (show W2.cell? ⟨bp, offp + m * 8 + 2, none⟩ = some (.int .i64 jb) from q 2 _ rfl)
   have q3 := HMk.out.reads (show W2.cell? ⟨bp, offp + m * 8 + 3, none⟩ = some (.int .i64 jax) from q 3 _ rfl)
   have q4 := HMk.out.reads (show W2.cell? ⟨bp, offp + m * 8 + 4, none⟩ = some (.int .i64 jay) from q 4 _ rfl)
   have q5 := HMk.out.reads (show W2.cell? ⟨bp, offp + m * 8 + 5, none⟩ = some (.int .i64 jtx) from q 5 _ rfl)
   have q6 := HMk.out.reads (show W2.cell? ⟨bp, offp + m * 8 + 6, none⟩ = some (.int .i64 jty) from q 6 _ rfl)
   have q7 := HMk.out.reads (show W2.cell? ⟨bp, offp + m * 8 + 7, none⟩ = some (.int .i64 jln) from q 7 _ rfl)
   obtain ⟨og, eog⟩ : ∃ o, offp + m * 8 = o := ⟨_, rfl⟩
   rw [eog] at q0 q1 q2 q3 q4 q5 q6 q7
   obtain ⟨i1, r1, h1t, h1f, h1c⟩ := HBody.out ja
   obtain ⟨i2, r2, h2t, h2f, h2c⟩ := HBody.out jb
   have er1 : r1 = true := by
    cases r1 with
    | true => rfl
    | false => exact absurd exa (h1f rfl xa hxa)
   have er2 : r2 = true := by
    cases r2 with
    | true => rfl
    | false => exact absurd exb (h2f rfl xb hxb)
   subst er1 er2
   have H1C := hid h1c
   have H2C := hid h2c
   obtain ⟨a, ha, eai⟩ := h1t rfl
   obtain ⟨b, hb, ebi⟩ := h2t rfl
   have ham := List.mem_of_getElem? ha
   have hbm := List.mem_of_getElem? hb
   have hL0 : 0 < L.length := List.length_pos_of_mem ham
   have hi1 : i1 < n := by rw [← HN.out]; exact (List.getElem?_eq_some_iff.1 ha).1
   have hi2 : i2 < n := by rw [← HN.out]; exact (List.getElem?_eq_some_iff.1 hb).1
   obtain ⟨gb, ob, rfl, hgb, hLB⟩ := HL2.out hL0
   obtain ⟨gm, rfl, hgm, hMB⟩ := HM2.out (by omega)
   have HTi := hid (fun v (k : Made W2.heap.size W2 v) => HT2.out gb ob gm cm i1 i2 a b _ v (hLB.below k.1 hgb) (Nat.lt_of_lt_of_le hgb k.1.size) (hMB.below k.1 hgm) (Nat.lt_of_lt_of_le hgm k.1.size) ha hb hi1 hi2 hji (HI.out a ham) (HI.out b hbm))
   have HSn : Hid (∀ T, TiesR ff L (J.take m) T → TiesR ff L (J.take (m + 1)) (T ++ [ff i1 i2 a b ⟨jid, ja, jb, jax, jay, jtx, jty, jln⟩])) := fun T h => by
    rw [take_snoc HJm.out]
    exact h.snoc ha hb eai ebi
   clear h1t h1f h1c h2t h2f h2c q hjm hbp hpc hxa exa hxb exb ha hb ham hbm hL0 hgb hLB hgm hMB eai ebi
   obtain ⟨t, et⟩ : ∃ t, ff i1 i2 a b ⟨jid, ja, jb, jax, jay, jtx, jty, jln⟩ = t := ⟨_, rfl⟩
   rw [et] at HTi HSn
   clear et
   obtain ⟨tA, tB, ⟨tn1, tn2⟩, ⟨ta1, ta2⟩, ⟨tb1, tb2⟩, tg, tf⟩ := t
   go_upto_region 6 with fail
   obtain ⟨W6, e6⟩ : ∃ W, W = wr.alloc (.cells #[.int .i64 jid, .int .i64 ja, .int .i64 jb, .int .i64 jax, .int .i64 jay, .int .i64 jtx, .int .i64 jty, .int .i64 jln] 36) := ⟨_, rfl⟩
   obtain ⟨gp, egp⟩ : ∃ g, wr.heap.size = g := ⟨_, rfl⟩
   have k6 : Made wr.heap.size wr W6 := by rw [e6]; exact (Made.rfl_ _ _).cells (Nat.le_refl _) _ _
   have HV6 : Hid (Has W6 gp 36 #[.int .i64 jid, .int .i64 ja, .int .i64 jb, .int .i64 jax, .int .i64 jay, .int .i64 jtx, .int .i64 jty, .int .i64 jln]) := by unfold Hid; rw [e6, ← egp]; exact has_new _ _ _
   have M6 : Hid (Made W2.heap.size W2 W6) := HMk.out.then_ (k6.low HMk.out.1.size)
   have HO6 : Hid (∃ T, TiesR ff L (J.take m) T ∧ W6.ownsRow B1 38 10 (.slice orr m cr) m (flatE encTi T)) := by
    obtain ⟨T, h1, h2⟩ := HO.out
    exact ⟨T, h1, own_stays h2 k6⟩
   try rw [← e6]
   try rw [egp]
   clear e6 egp k6 q0 q1 q2 q3 q4 q5 q6 q7 HO HM HMk
   have v0 : W6.cell? ⟨gp, 1, none⟩ = some (.int .i64 ja) := HV6.out.at_ 1
   have HWx := hid (HW2.out.stays M6.out HW2.out.here)
   have HLx := hid (H1C.out W6 (HL2.out.kept M6.out))
   go_wp2_with (refine wpList_load_row rfl 31 (.tmp 1) rfl g0 rfl 31 _ (0, 0) _ HWx.out Tryz.underlying31 rfl hszW ?_)
   refine HLx.out.mono ?_
   rintro e v7 ⟨rfl, k7⟩
   have HV7 := hid (HV6.out.stays k7 HV6.out.here)
   have M7 : Hid (Made W2.heap.size W2 v7) := M6.out.then_ (k7.low M6.out.1.size)
   have HO7 : Hid (∃ T, TiesR ff L (J.take m) T ∧ v7.ownsRow B1 38 10 (.slice orr m cr) m (flatE encTi T)) := by
    obtain ⟨T, h1, h2⟩ := HO6.out
    exact ⟨T, h1, own_stays h2 k7⟩
   clear k7 v0 HWx HLx HV6 M6 HO6
   have v1 : v7.cell? ⟨gp, 2, none⟩ = some (.int .i64 jb) := HV7.out.at_ 2
   have HWx := hid (HW2.out.stays M7.out HW2.out.here)
   have HLx := hid (H2C.out v7 (HL2.out.kept M7.out))
   go_wp2_with (refine wpList_load_row rfl 31 (.tmp 1) rfl g0 rfl 31 _ (0, 0) _ HWx.out Tryz.underlying31 rfl hszW ?_)
   refine HLx.out.mono ?_
   rintro e v8 ⟨rfl, k8⟩
   have HV8 := hid (HV7.out.stays k8 HV7.out.here)
   have M8 : Hid (Made W2.heap.size W2 v8) := M7.out.then_ (k8.low M7.out.1.size)
   have HO8 : Hid (∃ T, TiesR ff L (J.take m) T ∧ v8.ownsRow B1 38 10 (.slice orr m cr) m (flatE encTi T)) := by
    obtain ⟨T, h1, h2⟩ := HO7.out
    exact ⟨T, h1, own_stays h2 k8⟩
   clear k8 v1 HWx HLx HV7 M7 HO7
   have HWc := hid (HC2.out.stays M8.out HC2.out.here)
   have HTx : Hid (Calls Tryz.prog 25 #[.agg #[.slice (some ⟨gb, ob, none⟩) n cb, .slice (some ⟨gm, 0, none⟩) n cm], .agg #[.int .i64 jid, .int .i64 ja, .int .i64 jb, .int .i64 jax, .int .i64 jay, .int .i64 jtx, .int .i64 jty, .int .i64 jln], .int .i64 (i1 : Nat), .int .i64 (i2 : Nat)] v8 fun e u => e = .returned (.agg #[.int .i64 (tA : Nat), .int .i64 (tB : Nat), .int .i64 tn1, .int .i64 tn2, .int .i64 ta1, .int .i64 ta2, .int .i64 tb1, .int .i64 tb2, .int .i64 tg, .int .i64 tf]) ∧ Made v8.heap.size v8 u) := HTi.out v8 M8.out
   go_wp2_with (first
    | refine wpList_load_row rfl 79 (.tmp 3) rfl gc rfl 79 _ (0, 0) _ HWc.out Tryz.underlying79 rfl hszC ?_
    | refine wpList_load_row rfl 36 (.tmp 6) rfl gp rfl 36 _ (0, 0) _ HV8.out Tryz.underlying36 rfl hszJ ?_)
   refine HTx.out.mono ?_
   rintro e v9 ⟨rfl, k9⟩
   have M9 : Hid (Made B1 W2 v9) := by have := M8.out.then_ (k9.low M8.out.1.size); rw [EB1.out] at this; exact this
   obtain ⟨T, hTT, hOw⟩ := HO8.out
   have HTT := hid (HSn.out T hTT)
   have hs9 : B1 ≤ v9.heap.size := by have := M9.out.1.size; have := EB1.out; omega
   have HOw : Hid ((v9.alloc (.cells #[.int .i64 (tA : Nat), .int .i64 (tB : Nat), .int .i64 tn1, .int .i64 tn2, .int .i64 ta1, .int .i64 ta2, .int .i64 tb1, .int .i64 tb2, .int .i64 tg, .int .i64 tf] 38)).ownsRow B1 38 10 (.slice orr m cr) m (flatE encTi T)) := (own_stays hOw k9).alloc _
   have HNb : Hid (Has (v9.alloc (.cells #[.int .i64 (tA : Nat), .int .i64 (tB : Nat), .int .i64 tn1, .int .i64 tn2, .int .i64 ta1, .int .i64 ta2, .int .i64 tb1, .int .i64 tb2, .int .i64 tg, .int .i64 tf] 38)) v9.heap.size 38 #[.int .i64 (tA : Nat), .int .i64 (tB : Nat), .int .i64 tn1, .int .i64 tn2, .int .i64 ta1, .int .i64 ta2, .int .i64 tb1, .int .i64 tb2, .int .i64 tg, .int .i64 tf]) := has_new _ _ _
   have HBw : Hid (Made B1 W2 (v9.alloc (.cells #[.int .i64 (tA : Nat), .int .i64 (tB : Nat), .int .i64 tn1, .int .i64 tn2, .int .i64 ta1, .int .i64 ta2, .int .i64 tb1, .int .i64 tb2, .int .i64 tg, .int .i64 tf] 38))) := M9.out.cells hs9 _ _
   clear k9 hTT hOw HO8 M8 HWc HTx HV8 HTi HSn M9
   go_wp2_with (at_builtin; refine wpList_append_at rfl (.tmp 39) (.tmp 45) 33 rfl B1 38 iO (.agg #[.int .i64 0, .int .i64 0, .int .i64 0, .int .i64 0, .int .i64 0, .int .i64 0, .int .i64 0, .int .i64 0, .int .i64 0, .int .i64 0]) 10 80 Tryz.underlying33 iHi.out iH0.out iH1.out iH2.out rfl (by decide) (.slice orr m cr) m (flatE encTi T) rfl HOw.out ⟨v9.heap.size, 0, none⟩ 1 1 [.int .i64 (tA : Nat), .int .i64 (tB : Nat), .int .i64 tn1, .int .i64 tn2, .int .i64 ta1, .int .i64 ta2, .int .i64 tb1, .int .i64 tb2, .int .i64 tg, .int .i64 tf] rfl rfl (has_news HNb.out) (by intro v hv; simp at hv; rcases hv with rfl | rfl | rfl | rfl | rfl | rfl | rfl | rfl | rfl | rfl <;> rfl) (by unfold maxLen; omega) (by omega) (by simp; omega) (by omega) ?_)
   intro v6 w6 hown hbt hnx
   have M10 : Hid (Made B1 W2 w6) := But.made_ HBw.out hbt (by simp; omega) (fun b hb => by have := (HOw.out.lt b hb.symm).1; omega)
   rw [show ([.int .i64 (tA : Nat), .int .i64 (tB : Nat), .int .i64 tn1, .int .i64 tn2, .int .i64 ta1, .int .i64 ta2, .int .i64 tb1, .int .i64 tb2, .int .i64 tg, .int .i64 tf] : List Value) = encTi ⟨tA, tB, (tn1, tn2), (ta1, ta2), (tb1, tb2), tg, tf⟩ from rfl, flatE_snoc] at hown
   obtain ⟨om6, cm6, rfl⟩ : ∃ o c, v6 = .slice o (m + 1) c := by
    rcases hown.2 with ⟨_, h⟩ | ⟨g, cap, cur, e, _⟩
    ·omega
    ·exact ⟨_, _, e⟩
   have HO10 : Hid (∃ T, TiesR ff L (J.take (m + 1)) T ∧ w6.ownsRow B1 38 10 (.slice om6 (m + 1) cm6) (m + 1) (flatE encTi T)) := ⟨_, HTT.out, hown⟩
   clear hown hbt hnx HOw HNb HBw HTT
   go_wp2_with fail
   go_roundg (np - (m + 1))
   case measure => omega
   case rel => exact ⟨m + 1, by omega, by go_num, ⟨om6, cm6, rfl, HO10.out⟩, M10.out⟩
  ·have e : m = np := by omega
   subst e
   go_wp2_with fail
   go_ret
   obtain ⟨T, h1, h2⟩ := HO.out
   rw [List.take_of_length_le (by rw [HNJ.out]; exact Nat.le_refl _)] at h1
   exact ⟨orr, cr, T, rfl, h1, own_low h2 lwB, BW2.out.trans (HM.out.1.mono lwB)⟩
end Go.Proofs.YtjhcejmfiekjgaaGreat.Fx