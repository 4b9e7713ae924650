/- SoT -/
import Derived.Test.YtjhcejmfiekjgaaGreatSt20
import Derived.Test.YtjhcejmfiekjgaaGreatSt21
set_option maxRecDepth 100000
set_option maxHeartbeats 64000000
/- Package solve: the rows of two bodies. -/
namespace Go.Proofs.YtjhcejmfiekjgaaGreat.Fx
open Go.ChangeShapes Go.WideShapes Go.ChangeAt Go.RowKit
set_option linter.unusedVariables false
def NoteP (C : List Ct) (a b key : Int) (x : Ct) : Prop := (x ∈ C ∧ x.a = a ∧ x.b = b ∧ x.key = key) ∨ (x = ⟨0, 0, 0, 0, 0⟩ ∧ ∀ y ∈ C, ¬ (y.a = a ∧ y.b = b ∧ y.key = key))
def RowsOf (C : List Ct) (i k : Nat) (a b : Bd) (nx ny : Int) (l : List Pnt) (R : List Ro) : Prop :=
 R.length = l.length ∧ ∀ (j : Nat) p, l[j]? = some p → ∃ x, NoteP C a.id b.id p.k x ∧ R[j]? = some (rowS i k a b (nx, ny) (p.x, p.y) p.k p.d x.n x.t)
theorem RowsOf.nil (C : List Ct) (i k : Nat) (a b : Bd) (nx ny : Int) (l : List Pnt) : RowsOf C i k a b nx ny (l.take 0) [] := ⟨rfl, fun j p h => by simp at h⟩
theorem RowsOf.snoc {C : List Ct} {i k : Nat} {a b : Bd} {nx ny : Int} {l : List Pnt} {m : Nat} {R : List Ro} (h : RowsOf C i k a b nx ny (l.take m) R) {p : Pnt} {x : Ct} (hp : l[m]? = some p) (hx : NoteP C a.id b.id p.k x) :
  RowsOf C i k a b nx ny (l.take (m + 1)) (R ++ [rowS i k a b (nx, ny) (p.x, p.y) p.k p.d x.n x.t]) := by
 have e : l.take (m + 1) = l.take m ++ [p] := take_snoc hp
 rw [e]
 refine ⟨by rw [List.length_append, List.length_append, h.1]; rfl, fun j q hq => ?_⟩
 rw [List.getElem?_append] at hq ⊢
 rw [h.1]
 split at hq
 ·rename_i hj
  rw [if_pos hj]
  exact h.2 j q hq
 ·rename_i hj
  rw [if_neg hj]
  have e0 : j - (l.take m).length = 0 := by
   rcases Nat.eq_zero_or_pos (j - (l.take m).length) with e0 | e0
   ·exact e0
   ·rw [List.getElem?_eq_none (by simp only [List.length_cons, List.length_nil]; omega)] at hq; cases hq
  rw [e0] at hq ⊢
  obtain rfl : p = q := by simpa using hq
  exact ⟨x, hx, rfl⟩
theorem alc_Ro {d : Tmp} {ty : TypeId} {ps : String} {af : Array Edge} : Alc Tryz.prog { dst := some d, op := .alloc 67, type := ty, pos := ps, after := af, guard := none } d 67 #[.int .i64 0, .int .i64 0, .int .i64 0, .int .i64 0, .int .i64 0, .int .i64 0, .int .i64 0, .int .i64 0, .int .i64 0, .int .i64 0, .int .i64 0, .int .i64 0, .int .i64 0, .int .i64 0] :=
 ⟨rfl, rfl, fun a w => by go_simp⟩
theorem infoRo : (Tryz.prog.info? 67).map (fun i => (i.zero, i.size, i.bytes)) = some (some (.agg #[.int .i64 0, .int .i64 0, .int .i64 0, .int .i64 0, .int .i64 0, .int .i64 0, .int .i64 0, .int .i64 0, .int .i64 0, .int .i64 0, .int .i64 0, .int .i64 0, .int .i64 0, .int .i64 0]), 14, 112) := by kernel_rfl
theorem encR_one (r : Ro) : ∀ v ∈ encR r, v.oneCell' = true := by
 intro v hv; simp [encR] at hv; rcases hv with rfl | rfl | rfl | rfl | rfl | rfl | rfl | rfl | rfl | rfl | rfl | rfl | rfl | rfl <;> rfl
theorem between_c {tk nb nj gx gy : Int} {gb ob n cb gm cm i k nj' cj nc cc : Nat} {oj oc : Option Addr} {L : List Bd} {C : List Ct} {a b : Bd} {t : Option Tch} {w : World} (hL : LsB encB 11 w gb ob L) (hgb : gb < w.heap.size) (hM : LsB encM 4 w gm 0 L) (hgm : gm < w.heap.size)
  (hi : L[i]? = some a) (hk : L[k]? = some b) (hin : i < n) (hkn : k < n) (hA : BdI a) (hB : BdI b) (hC : LsT encC 5 w oc C) (hnc : C.length = nc) (hncx : nc ≤ 1073741824) (hup : C.Pairwise LtC)
  (hT : ∀ v, Made w.heap.size w v → Calls Tryz.prog 79 #[bdV a, bdV b] v (TouchQ t v)) (hTI : I64 (t.getD noTch).nx ∧ I64 (t.getD noTch).ny ∧ (t.getD noTch).pts.length ≤ 1024 ∧ ∀ p ∈ (t.getD noTch).pts, I64 p.x ∧ I64 p.y ∧ I64 p.d ∧ I64 p.k) (hCI : ∀ c ∈ C, CtI c) :
  Calls Tryz.prog 42 #[.agg #[.int .i64 tk, .int .i64 nb, .int .i64 nj, .int .i64 gx, .int .i64 gy, .slice (some ⟨gb, ob, none⟩) n cb, .slice oj nj' cj, .slice oc nc cc], .agg #[.slice (some ⟨gb, ob, none⟩) n cb, .slice (some ⟨gm, 0, none⟩) n cm], .int .i64 (i : Nat), .int .i64 (k : Nat)] w fun e v => ∃ orr cr R, e = .returned (.slice orr (t.getD noTch).pts.length cr) ∧ RowsOf C i k a b (t.getD noTch).nx (t.getD noTch).ny (t.getD noTch).pts R ∧ v.ownsRow w.heap.size 67 14 (.slice orr (t.getD noTch).pts.length cr) (t.getD noTch).pts.length (flatE encR R) ∧ Made w.heap.size w v := by
 obtain ⟨nx, enx⟩ : ∃ x, (t.getD noTch).nx = x := ⟨_, rfl⟩
 obtain ⟨ny, eny⟩ : ∃ x, (t.getD noTch).ny = x := ⟨_, rfl⟩
 obtain ⟨l, el⟩ : ∃ x, (t.getD noTch).pts = x := ⟨_, rfl⟩
 obtain ⟨m, em⟩ : ∃ x, l.length = x := ⟨_, rfl⟩
 obtain ⟨yes, ey⟩ : ∃ x, t.isSome = x := ⟨_, rfl⟩
 have HTQ := hid (fun v (h : Made w.heap.size w v) => (hT v h).mono fun e u (q : TouchQ t v e u) => (by have := q.r; unfold TouchR at this; rw [enx, eny, el, em, ey] at this; exact this : ∃ ao c, e = .returned (.tuple #[tchV nx ny ao m c, .bool yes]) ∧ PtsT u ao l ∧ Made v.heap.size v u))
 rw [enx, eny, el] at hTI ⊢
 rw [em] at hTI ⊢
 obtain ⟨inx, iny, hm, hpi⟩ := hTI
 have HPI := hid hpi
 have HEM := hid em
 obtain ⟨oa, eoa⟩ : ∃ o, ob + i * 11 = o := ⟨_, rfl⟩
 obtain ⟨ok, eok⟩ : ∃ o, ob + k * 11 = o := ⟨_, rfl⟩
 have HLA := hid (fun v (kk : Made w.heap.size w v) => ((hL.below kk.1 hgb) i a hi : ElT encB v gb (ob + i * 11) a))
 have HLB := hid (fun v (kk : Made w.heap.size w v) => ((hL.below kk.1 hgb) k b hk : ElT encB v gb (ob + k * 11) b))
 rw [eoa] at HLA
 rw [eok] at HLB
 have HLnk := hid (fun (rax ray rbx rby : Int) v (kk : Made w.heap.size w v) => link_c (gb := gb) (ob := ob) (cb := cb) (cm := cm) (oa := oa) (ok := ok) rax ray rbx rby v (hM.below kk.1 hgm) hi hk hin hkn eoa eok)
 have HCon := hid (fun (key : Int) v (kk : Made w.heap.size w v) => wcontact_c tk nb nj gx gy (some ⟨gb, ob, none⟩) oj n cb nj' cj a.id b.id key (c := cc) hnc hncx (hC.below kk.1) hup)
 have HCI := hid hCI
 have iAx := hA.x; have iAy := hA.y; have iBx := hB.x; have iBy := hB.y
 obtain ⟨iO, hiO, hz0, hz1, hz2⟩ := info_parts infoRo
 have iHi := hid hiO; have iH0 := hid hz0; have iH1 := hid hz1; have iH2 := hid hz2
 clear hT hL hM hC hCI enx eny el em ey hpi hi hk hA hB hiO hz0 hz1 hz2 hnc hup
 obtain ⟨W1, eW⟩ : ∃ W, W = (w.alloc (.cells #[.int .i64 tk, .int .i64 nb, .int .i64 nj, .int .i64 gx, .int .i64 gy, .slice (some ⟨gb, ob, none⟩) n cb, .slice oj nj' cj, .slice oc nc cc] 31)).alloc (.cells #[.slice (some ⟨gb, ob, none⟩) n cb, .slice (some ⟨gm, 0, none⟩) n cm] 79) := ⟨_, rfl⟩
 have HW1 : Hid (Has W1 w.heap.size 31 #[.int .i64 tk, .int .i64 nb, .int .i64 nj, .int .i64 gx, .int .i64 gy, .slice (some ⟨gb, ob, none⟩) n cb, .slice oj nj' cj, .slice oc nc cc]) := by unfold Hid; rw [eW]; exact (has_new _ _ _).more _
 have HC1 : Hid (Has W1 (w.heap.size + 1) 79 #[.slice (some ⟨gb, ob, none⟩) n cb, .slice (some ⟨gm, 0, none⟩) n cm]) := by unfold Hid; rw [eW]; exact has_next _ _ _ _
 have M1 : Hid (Made w.heap.size w W1) := by unfold Hid; rw [eW]; exact ((Made.rfl_ _ _).cells (Nat.le_refl _) _ _).cells (by simp) _ _
 obtain ⟨g0, eg0⟩ : ∃ g, w.heap.size = g := ⟨_, rfl⟩
 obtain ⟨g1, eg1⟩ : ∃ g, g0 + 1 = g := ⟨_, rfl⟩
 rw [eg0] at HW1 HC1
 rw [eg1] at HC1
 have l1 : g1 < W1.heap.size := HC1.out.here
 have hin' : (i : Int) < (n : Int) := by omega
 have hkn' : (k : Int) < (n : Int) := by omega
 go_enter Tryz.func42, Tryz.ntmps42
 go_upto_region 1 with fail
 try rw [← eW]
 clear eW
 have c5 : W1.cell? ⟨g0, 5, none⟩ = some (.slice (some ⟨gb, ob, none⟩) n cb) := by rw [HW1.out.at_]; rfl
 have a0 : W1.cell? ⟨gb, oa, none⟩ = some (.int .i64 a.id) := HLA.out W1 M1.out 0 _ rfl
 have a1 : W1.cell? ⟨gb, oa + 1, none⟩ = some (.int .i64 a.x) := HLA.out W1 M1.out 1 _ rfl
 have a2 : W1.cell? ⟨gb, oa + 2, none⟩ = some (.int .i64 a.y) := HLA.out W1 M1.out 2 _ rfl
 have a3 : W1.cell? ⟨gb, oa + 3, none⟩ = some (.int .i64 a.vx) := HLA.out W1 M1.out 3 _ rfl
 have a4 : W1.cell? ⟨gb, oa + 4, none⟩ = some (.int .i64 a.vy) := HLA.out W1 M1.out 4 _ rfl
 have a5 : W1.cell? ⟨gb, oa + 5, none⟩ = some (.int .i64 a.an) := HLA.out W1 M1.out 5 _ rfl
 have a6 : W1.cell? ⟨gb, oa + 6, none⟩ = some (.int .i64 a.sp) := HLA.out W1 M1.out 6 _ rfl
 have a7 : W1.cell? ⟨gb, oa + 7, none⟩ = some (.int .i64 a.de) := HLA.out W1 M1.out 7 _ rfl
 have a8 : W1.cell? ⟨gb, oa + 8, none⟩ = some (.int .i64 a.k) := HLA.out W1 M1.out 8 _ rfl
 have a9 : W1.cell? ⟨gb, oa + 9, none⟩ = some (.int .i64 a.r) := HLA.out W1 M1.out 9 _ rfl
 have a10 : W1.cell? ⟨gb, oa + 10, none⟩ = some (.slice a.ao a.n a.c) := HLA.out W1 M1.out 10 _ rfl
 have b0 : W1.cell? ⟨gb, ok, none⟩ = some (.int .i64 b.id) := HLB.out W1 M1.out 0 _ rfl
 have b1 : W1.cell? ⟨gb, ok + 1, none⟩ = some (.int .i64 b.x) := HLB.out W1 M1.out 1 _ rfl
 have b2 : W1.cell? ⟨gb, ok + 2, none⟩ = some (.int .i64 b.y) := HLB.out W1 M1.out 2 _ rfl
 have b3 : W1.cell? ⟨gb, ok + 3, none⟩ = some (.int .i64 b.vx) := HLB.out W1 M1.out 3 _ rfl
 have b4 : W1.cell? ⟨gb, ok + 4, none⟩ = some (.int .i64 b.vy) := HLB.out W1 M1.out 4 _ rfl
 have b5 : W1.cell? ⟨gb, ok + 5, none⟩ = some (.int .i64 b.an) := HLB.out W1 M1.out 5 _ rfl
 have b6 : W1.cell? ⟨gb, ok + 6, none⟩ = some (.int .i64 b.sp) := HLB.out W1 M1.out 6 _ rfl
 have b7 : W1.cell? ⟨gb, ok + 7, none⟩ = some (.int .i64 b.de) := HLB.out W1 M1.out 7 _ rfl
 have b8 : W1.cell? ⟨gb, ok + 8, none⟩ = some (.int .i64 b.k) := HLB.out W1 M1.out 8 _ rfl
 have b9 : W1.cell? ⟨gb, ok + 9, none⟩ = some (.int .i64 b.r) := HLB.out W1 M1.out 9 _ rfl
 have b10 : W1.cell? ⟨gb, ok + 10, none⟩ = some (.slice b.ao b.n b.c) := HLB.out W1 M1.out 10 _ rfl
 have l0 : g0 < W1.heap.size := HW1.out.here
 have lgb : gb < W1.heap.size := World.block_lt_of_cell? (a := ⟨gb, oa, none⟩) W1 a0
 go_cut [9, 10] (fun s9 s10 wx => ∃ gA gB, s9 = .pointer (some ⟨gA, 0, none⟩) ∧ s10 = .pointer (some ⟨gB, 0, none⟩) ∧ gA ≠ gB ∧ W1.heap.size ≤ gA ∧ W1.heap.size ≤ gB ∧ Hid (Has wx gA 43 #[.int .i64 a.id, .int .i64 a.x, .int .i64 a.y, .int .i64 a.vx, .int .i64 a.vy, .int .i64 a.an, .int .i64 a.sp, .int .i64 a.de, .int .i64 a.k, .int .i64 a.r, .slice a.ao a.n a.c]) ∧ Hid (Has wx gB 43 #[.int .i64 b.id, .int .i64 b.x, .int .i64 b.y, .int .i64 b.vx, .int .i64 b.vy, .int .i64 b.an, .int .i64 b.sp, .int .i64 b.de, .int .i64 b.k, .int .i64 b.r, .slice b.ao b.n b.c]) ∧ Hid (Made W1.heap.size W1 wx))
 case first =>
  go_region
  ·go_wp2_with fail
   go_meet
   exact ⟨W1.heap.size, W1.heap.size + 1, rfl, rfl, by omega, by omega, by omega, ((has_new _ _ _).more _).drawn 1, (has_next _ _ _ _).drawn 1, (((Made.rfl_ _ _).cells (Nat.le_refl _) _ _).cells (by simp) _ _).draws 1⟩
  ·go_wp2_with fail
   go_meet
   exact ⟨W1.heap.size + 1, W1.heap.size, rfl, rfl, by omega, by omega, by omega, (has_next _ _ _ _).drawn 1, ((has_new _ _ _).more _).drawn 1, (((Made.rfl_ _ _).cells (Nat.le_refl _) _ _).cells (by simp) _ _).draws 1⟩
 obtain ⟨gA, gB, rfl, rfl, hne, hgA, hgB, HA3, HB3, HK⟩ := hcut
 have HW3 := hid (HW1.out.stays HK.out HW1.out.here)
 have HC3 := hid (HC1.out.stays HK.out HC1.out.here)
 have M3 : Hid (Made w.heap.size w wc) := M1.out.then_ (HK.out.low M1.out.1.size)
 have lA0 : g1 < gA := by omega
 have lB0 : g1 < gB := by omega
 have hsB : (Tryz.prog.info? 43).map (·.size) = some 11 := by kernel_rfl
 have HTQ3 := hid (HTQ.out wc M3.out)
 clear HK HW1 HC1 M1 HLA HLB HTQ hgA hgB a0 a1 a2 a3 a4 a5 a6 a7 a8 a9 a10 b0 b1 b2 b3 b4 b5 b6 b7 b8 b9 b10 c5
 go_wp2_with (first
  | refine wpList_load_row rfl 43 (.tmp 9) rfl gA rfl 43 _ (0, 0) _ HA3.out Tryz.underlying43 rfl hsB ?_
  | refine wpList_load_row rfl 43 (.tmp 10) rfl gB rfl 43 _ (0, 0) _ HB3.out Tryz.underlying43 rfl hsB ?_)
 refine HTQ3.out.mono ?_
 rintro e v ⟨ap, cp, rfl, hpt, kv⟩
 have HP4 := hid hpt
 have HA4 := hid (HA3.out.stays kv HA3.out.here)
 have HB4 := hid (HB3.out.stays kv HB3.out.here)
 have HW4 := hid (HW3.out.stays kv HW3.out.here)
 have HC4 := hid (HC3.out.stays kv HC3.out.here)
 have M4 : Hid (Made w.heap.size w v) := M3.out.then_ (kv.low M3.out.1.size)
 clear hpt kv HTQ3 HA3 HB3 HW3 HC3 M3
 go_wp2_with fail
 obtain ⟨W5, eW⟩ : ∃ W, W = v.alloc (.cells #[.int .i64 nx, .int .i64 ny, .slice ap m cp] 139) := ⟨_, rfl⟩
 obtain ⟨gT, egT⟩ : ∃ g, v.heap.size = g := ⟨_, rfl⟩
 have HT5 : Hid (Has W5 gT 139 #[.int .i64 nx, .int .i64 ny, .slice ap m cp]) := by unfold Hid; rw [eW, ← egT]; exact has_new _ _ _
 have k5 : Made v.heap.size v W5 := by rw [eW]; exact (Made.rfl_ _ _).cells (Nat.le_refl _) _ _
 have HP5 := hid (HP4.out.kept k5)
 have HA5 := hid (HA4.out.stays k5 HA4.out.here)
 have HB5 := hid (HB4.out.stays k5 HB4.out.here)
 have HW5 := hid (HW4.out.stays k5 HW4.out.here)
 have HC5 := hid (HC4.out.stays k5 HC4.out.here)
 have M5 : Hid (Made w.heap.size w W5) := M4.out.then_ (k5.low M4.out.1.size)
 try rw [← eW]
 try rw [egT]
 obtain ⟨B1, eB1⟩ : ∃ B, W5.heap.size = B := ⟨_, rfl⟩
 have lT : gT < B1 := by rw [← eB1]; exact HT5.out.here
 have lA : gA < B1 := by rw [← eB1]; exact HA5.out.here
 have lB : gB < B1 := by rw [← eB1]; exact HB5.out.here
 have lW : g0 < B1 := by rw [← eB1]; exact HW5.out.here
 have lC : g1 < B1 := by rw [← eB1]; exact HC5.out.here
 have EB1 := hid eB1
 have lB0' : w.heap.size ≤ B1 := by rw [← eB1]; exact M5.out.1.size
 have hszR : (Tryz.prog.info? 67).map (·.size) = some 14 := by kernel_rfl
 have hszL : (Tryz.prog.info? 110).map (·.size) = some 14 := by kernel_rfl
 clear eW egT k5 HP4 HA4 HB4 HW4 HC4 M4 eB1
 go_loopg [13, 40] m (fun gg s13 s40 wx => ∃ j : Nat, j + gg = m ∧ s40 = .int .i64 (j : Nat) ∧ (∃ orr cr, s13 = .slice orr j cr ∧ Hid (∃ RR, RowsOf C i k a b nx ny (l.take j) RR ∧ wx.ownsRow B1 67 14 (.slice orr j cr) j (flatE encR RR))) ∧ Hid (Made B1 W5 wx))
 case atStart => exact ⟨0, by omega, by first | rfl | trivial, ⟨none, 0, rfl, ⟨[], RowsOf.nil _ _ _ _ _ _ _ _, World.ownsRow_nil _ _ _ _⟩⟩, Made.rfl_ _ _⟩
 case round =>
  obtain ⟨j, hj, rfl, ⟨orr, cr, rfl, HO⟩, HM⟩ := hrel
  by_cases hjm : j < m
  ·obtain ⟨p, hp⟩ : ∃ p, l[j]? = some p := ⟨_, List.getElem?_eq_getElem (by rw [HEM.out]; exact hjm)⟩
   obtain ⟨bp, offp, eap, hpc⟩ := HP5.out (by rw [HEM.out]; omega)
   cases eap
   obtain ⟨q0, q1, q2, q3⟩ := hpc j p hp
   have HPs := hid hp
   obtain ⟨ipx, ipy, ipd, ipk⟩ := HPI.out p (List.mem_of_getElem? hp)
   have lbp : bp < B1 := by rw [← EB1.out]; exact World.block_lt_of_cell? (a := ⟨bp, offp + j * 4, none⟩) W5 q0
   have q0 := HM.out.at_ lbp q0
   have q1 := HM.out.at_ lbp q1
   have q2 := HM.out.at_ lbp q2
   have q3 := HM.out.at_ lbp q3
   obtain ⟨og, eog⟩ : ∃ o, offp + j * 4 = o := ⟨_, rfl⟩
   rw [eog] at q0 q1 q2 q3
   obtain ⟨px, py, pd, pk⟩ := p
   simp only at q0 q1 q2 q3 ipx ipy ipd ipk
   clear hpc hp
   go_upto_region 7 with fail
   obtain ⟨W6, e6⟩ : ∃ W, W = wr.alloc (.cells #[.int .i64 px, .int .i64 py, .int .i64 pd, .int .i64 pk] 143) := ⟨_, rfl⟩
   obtain ⟨gP, egP⟩ : ∃ g, wr.heap.size = g := ⟨_, rfl⟩
   have HP6 : Hid (Has W6 gP 143 #[.int .i64 px, .int .i64 py, .int .i64 pd, .int .i64 pk]) := by unfold Hid; rw [e6, ← egP]; exact has_new _ _ _
   have k6 : Made wr.heap.size wr W6 := by rw [e6]; exact (Made.rfl_ _ _).cells (Nat.le_refl _) _ _
   have lPg : B1 ≤ gP := by rw [← egP, ← EB1.out]; exact HM.out.1.size
   have M6 : Hid (Made B1 W5 W6) := HM.out.then_ (k6.low (by rw [egP]; exact lPg))
   have HO6 : Hid (∃ RR, RowsOf C i k a b nx ny (l.take j) RR ∧ W6.ownsRow B1 67 14 (.slice orr j cr) j (flatE encR RR)) := by
    obtain ⟨RR, h1, h2⟩ := HO.out
    exact ⟨RR, h1, own_stays h2 k6⟩
   obtain ⟨po, epo⟩ : ∃ z, outS pd = z := ⟨_, rfl⟩
   have EPO := hid epo
   have ipo : I64 po := by rw [← epo]; exact (out_I pd).1
   try rw [← e6]
   try rw [egP]
   clear e6 k6 egP HO HM q0 q1 q2 q3 epo
   refine reg_float1 10 111 16 67 #[.int .i64 0, .int .i64 0, .int .i64 0, .int .i64 0, .int .i64 0, .int .i64 0, .int .i64 0, .int .i64 0, .int .i64 0, .int .i64 0, .int .i64 0, .int .i64 0, .int .i64 0, .int .i64 0] _ (by kernel_rfl) (by kernel_rfl) (by kernel_rfl) rfl rfl alc_Ro ?_
   apply Exists.intro
   refine ⟨?h3, ?h4⟩
   case h3 =>
    intro T hTT f hf
    have p2 := Class.reads hf (p := ⟨gP, 2, none⟩) (u := .int .i64 pd) (by rw [HP6.out.at_]; rfl)
    have p3 := Class.reads hf (p := ⟨gP, 3, none⟩) (u := .int .i64 pk) (by rw [HP6.out.at_]; rfl)
    have t0 := Class.reads hf (p := ⟨gT, 0, none⟩) (u := .int .i64 nx) (by rw [(HT5.out.stays M6.out lT).at_]; rfl)
    have t1 := Class.reads hf (p := ⟨gT, 1, none⟩) (u := .int .i64 ny) (by rw [(HT5.out.stays M6.out lT).at_]; rfl)
    simp only [List.take_succ_cons, List.take_zero]
    repeat (go_big_quiet_step ((go_at_call 80; with_reducible exact hf.made (out_c pd po _ ipd EPO.out))))
    exact wpQuiet_nil rfl
   intro gR v7 k7 hgR hhR
   have HP7 := hid (HP6.out.stays k7 HP6.out.here)
   have lPR : gP < gR := by have := HP6.out.here; omega
   have M7 : Hid (Made B1 W5 v7) := M6.out.then_ (k7.low (by have := HP6.out.here; omega))
   have HO7 : Hid (∃ RR, RowsOf C i k a b nx ny (l.take j) RR ∧ v7.ownsRow B1 67 14 (.slice orr j cr) j (flatE encR RR) ∧ some gR ≠ (Value.slice orr j cr).ownBlock) := by
    obtain ⟨RR, h1, h2⟩ := HO6.out
    exact ⟨RR, h1, own_stays h2 k7, fun e => by have := (h2.lt gR e.symm).2; omega⟩
   clear k7 hgR HP6 M6 HO6
   simp only [List.drop_succ_cons, List.drop_zero]
   go_upto_region 8 with (refine wpList_store_row rfl 67 (.tmp 16) (.tmp 53) rfl gR #[.int .i64 (i : Nat), .int .i64 (k : Nat), .int .i64 pk, .int .i64 nx, .int .i64 ny, .int .i64 0, .int .i64 0, .int .i64 0, .int .i64 0, .int .i64 0, .int .i64 0, .int .i64 po, .int .i64 0, .int .i64 0] rfl rfl 67 _ hhR hszR rfl (by simp [Value.oneCell']) ?_)
   obtain ⟨W8, e8⟩ : ∃ W, W = v7.setRow gR #[.int .i64 (i : Nat), .int .i64 (k : Nat), .int .i64 pk, .int .i64 nx, .int .i64 ny, .int .i64 0, .int .i64 0, .int .i64 0, .int .i64 0, .int .i64 0, .int .i64 0, .int .i64 po, .int .i64 0, .int .i64 0] := ⟨_, rfl⟩
   have HR8 : Hid (Has W8 gR 67 #[.int .i64 (i : Nat), .int .i64 (k : Nat), .int .i64 pk, .int .i64 nx, .int .i64 ny, .int .i64 0, .int .i64 0, .int .i64 0, .int .i64 0, .int .i64 0, .int .i64 0, .int .i64 po, .int .i64 0, .int .i64 0]) := by unfold Hid; rw [e8]; exact setRow_heap v7 _ _ _ _ _ hhR
   have HP8 : Hid (Has W8 gP 143 #[.int .i64 px, .int .i64 py, .int .i64 pd, .int .i64 pk]) := by unfold Hid; rw [e8]; exact (setRow_other v7 gR gP _ (by omega)).trans HP7.out
   have M8 : Hid (Made B1 W5 W8) := by unfold Hid; rw [e8]; exact M7.out.setRow (by omega) _
   have HO8 : Hid (∃ RR, RowsOf C i k a b nx ny (l.take j) RR ∧ W8.ownsRow B1 67 14 (.slice orr j cr) j (flatE encR RR) ∧ some gR ≠ (Value.slice orr j cr).ownBlock) := by
    obtain ⟨RR, h1, h2, h3⟩ := HO7.out
    exact ⟨RR, h1, by rw [e8]; exact own_apart_row h2 h3 _, h3⟩
   try simp only [Act.put, List.setIfInBounds_toArray, List.set_cons_succ, List.set_cons_zero]
   try rw [← e8]
   clear e8 hhR HP7 M7 HO7
   obtain ⟨rax, erax⟩ : ∃ z, subF px a.x = z := ⟨_, rfl⟩
   obtain ⟨ray, eray⟩ : ∃ z, subF py a.y = z := ⟨_, rfl⟩
   obtain ⟨rbx, erbx⟩ : ∃ z, subF px b.x = z := ⟨_, rfl⟩
   obtain ⟨rby, erby⟩ : ∃ z, subF py b.y = z := ⟨_, rfl⟩
   have irax : I64 rax := by rw [← erax]; exact i64_sub _ _
   have iray : I64 ray := by rw [← eray]; exact i64_sub _ _
   have irbx : I64 rbx := by rw [← erbx]; exact i64_sub _ _
   have irby : I64 rby := by rw [← erby]; exact i64_sub _ _
   have ERAX := hid erax; have ERAY := hid eray; have ERBX := hid erbx; have ERBY := hid erby
   clear erax eray erbx erby
   refine RC.reg_stores (Sc gR 67 (pick3 #[.int .i64 (i : Nat), .int .i64 (k : Nat), .int .i64 pk, .int .i64 nx, .int .i64 ny, .int .i64 0, .int .i64 0, .int .i64 0, .int .i64 0, .int .i64 0, .int .i64 0, .int .i64 po, .int .i64 0, .int .i64 0] #[.int .i64 (i : Nat), .int .i64 (k : Nat), .int .i64 pk, .int .i64 nx, .int .i64 ny, .int .i64 rax, .int .i64 ray, .int .i64 0, .int .i64 0, .int .i64 0, .int .i64 0, .int .i64 po, .int .i64 0, .int .i64 0] #[.int .i64 (i : Nat), .int .i64 (k : Nat), .int .i64 pk, .int .i64 nx, .int .i64 ny, .int .i64 rax, .int .i64 ray, .int .i64 rbx, .int .i64 rby, .int .i64 0, .int .i64 0, .int .i64 po, .int .i64 0, .int .i64 0]) W8) [11, 13] 111 (by kernel_rfl) (Sc.start HR8.out) (by kernel_rfl) rfl (by kernel_rfl) (by kernel_rfl) ?_
   apply Exists.intro
   refine ⟨?r1, ?r2, ?r3⟩
   case r1 =>
    intro s Ty hT f hf
    have p0 := scR hf (p := ⟨gP, 0, none⟩) (u := .int .i64 px) (by rw [HP8.out.at_]; rfl) (show ¬ gP = gR by omega)
    have p1 := scR hf (p := ⟨gP, 1, none⟩) (u := .int .i64 py) (by rw [HP8.out.at_]; rfl) (show ¬ gP = gR by omega)
    have a1 := scR hf (p := ⟨gA, 1, none⟩) (u := .int .i64 a.x) (by rw [(HA5.out.stays M8.out lA).at_]; rfl) (show ¬ gA = gR by omega)
    have a2 := scR hf (p := ⟨gA, 2, none⟩) (u := .int .i64 a.y) (by rw [(HA5.out.stays M8.out lA).at_]; rfl) (show ¬ gA = gR by omega)
    have b1 := scR hf (p := ⟨gB, 1, none⟩) (u := .int .i64 b.x) (by rw [(HB5.out.stays M8.out lB).at_]; rfl) (show ¬ gB = gR by omega)
    have b2 := scR hf (p := ⟨gB, 2, none⟩) (u := .int .i64 b.y) (by rw [(HB5.out.stays M8.out lB).at_]; rfl) (show ¬ gB = gR by omega)
    have HF := hid hf
    clear hf
    simp only [List.filter, Option.isSome]
    repeat (go_big_quiet_step ((first
     | (go_at_call 9; with_reducible exact scM HF.out (vsub_is px py a.x a.y rax ray _ ipx ipy iAx iAy ERAX.out ERAY.out))
     | (go_at_call 9; with_reducible exact scM HF.out (vsub_is px py b.x b.y rbx rby _ ipx ipy iBx iBy ERBX.out ERBY.out)))))
    exact wpQuiet_nil rfl
   case r2 =>
    refine ⟨?_, ?_, trivial⟩
    ·show ∀ u, Sc gR 67 _ _ _ u → ∃ u', Sc gR 67 _ _ _ u' ∧ ((∃ x, (execOp _ _).run Tryz.prog u = .ok (.value x) u') ∨ (execOp _ _).run Tryz.prog u = .ok .skip u')
     intro u hu
     obtain ⟨hu1, hu2⟩ := hu
     have lR := hu2.here
     have fR := hu2.free
     have d5 : u.cell? ⟨gR, 5, none⟩ = some (.int .i64 0) := hu2.at_ 5
     have d6 : u.cell? ⟨gR, 6, none⟩ = some (.int .i64 0) := hu2.at_ 6
     refine ⟨((u).setCell ⟨gR, 5, none⟩ (.int .i64 rax)).setCell ⟨gR, 6, none⟩ (.int .i64 ray), ⟨((hu1.put (p := ⟨gR, 5, none⟩) (.inl rfl) _).put (p := ⟨gR, 6, none⟩) (.inl rfl) _), ((hu2.put 5 _).put 6 _)⟩, ?_⟩
     clear hu1 hu2
     first | (refine .inl ⟨undef, ?_⟩; go_simp; done) | (refine .inr ?_; go_simp; done)
    ·show ∀ u, Sc gR 67 _ _ _ u → ∃ u', Sc gR 67 _ _ _ u' ∧ ((∃ x, (execOp _ _).run Tryz.prog u = .ok (.value x) u') ∨ (execOp _ _).run Tryz.prog u = .ok .skip u')
     intro u hu
     obtain ⟨hu1, hu2⟩ := hu
     have lR := hu2.here
     have fR := hu2.free
     have d7 : u.cell? ⟨gR, 7, none⟩ = some (.int .i64 0) := hu2.at_ 7
     have d8 : u.cell? ⟨gR, 8, none⟩ = some (.int .i64 0) := hu2.at_ 8
     refine ⟨((u).setCell ⟨gR, 7, none⟩ (.int .i64 rbx)).setCell ⟨gR, 8, none⟩ (.int .i64 rby), ⟨((hu1.put (p := ⟨gR, 7, none⟩) (.inl rfl) _).put (p := ⟨gR, 8, none⟩) (.inl rfl) _), ((hu2.put 7 _).put 8 _)⟩, ?_⟩
     clear hu1 hu2
     first | (refine .inl ⟨undef, ?_⟩; go_simp; done) | (refine .inr ?_; go_simp; done)
   intro w9 hu
   have hu : Sc gR 67 (pick3 #[.int .i64 (i : Nat), .int .i64 (k : Nat), .int .i64 pk, .int .i64 nx, .int .i64 ny, .int .i64 0, .int .i64 0, .int .i64 0, .int .i64 0, .int .i64 0, .int .i64 0, .int .i64 po, .int .i64 0, .int .i64 0] #[.int .i64 (i : Nat), .int .i64 (k : Nat), .int .i64 pk, .int .i64 nx, .int .i64 ny, .int .i64 rax, .int .i64 ray, .int .i64 0, .int .i64 0, .int .i64 0, .int .i64 0, .int .i64 po, .int .i64 0, .int .i64 0] #[.int .i64 (i : Nat), .int .i64 (k : Nat), .int .i64 pk, .int .i64 nx, .int .i64 ny, .int .i64 rax, .int .i64 ray, .int .i64 rbx, .int .i64 rby, .int .i64 0, .int .i64 0, .int .i64 po, .int .i64 0, .int .i64 0]) W8 2 w9 := hu
   obtain ⟨kb, HRx⟩ := hu
   have HR9 : Hid (Has w9 gR 67 #[.int .i64 (i : Nat), .int .i64 (k : Nat), .int .i64 pk, .int .i64 nx, .int .i64 ny, .int .i64 rax, .int .i64 ray, .int .i64 rbx, .int .i64 rby, .int .i64 0, .int .i64 0, .int .i64 po, .int .i64 0, .int .i64 0]) := HRx
   have HP9 := hid (HP8.out.but kb (show ¬ gP = gR by omega))
   have M9 : Hid (Made B1 W5 w9) := But.made_ M8.out kb (by have := M8.out.1.size; have := EB1.out; omega) (fun b hb => by have : b = gR := hb; omega)
   have HO9 : Hid (∃ RR, RowsOf C i k a b nx ny (l.take j) RR ∧ w9.ownsRow B1 67 14 (.slice orr j cr) j (flatE encR RR) ∧ some gR ≠ (Value.slice orr j cr).ownBlock) := by
    obtain ⟨RR, h1, h2, h3⟩ := HO8.out
    exact ⟨RR, h1, own_butX h2 kb (fun b hb he => h3 (by rw [← hb]; exact congrArg some he.symm)), h3⟩
   clear kb HRx HR8 HP8 M8 HO8
   -- region 9
   have q5 : w9.cell? ⟨gR, 5, none⟩ = some (.int .i64 rax) := HR9.out.at_ 5
   have q6 : w9.cell? ⟨gR, 6, none⟩ = some (.int .i64 ray) := HR9.out.at_ 6
   have q7 : w9.cell? ⟨gR, 7, none⟩ = some (.int .i64 rbx) := HR9.out.at_ 7
   have q8 : w9.cell? ⟨gR, 8, none⟩ = some (.int .i64 rby) := HR9.out.at_ 8
   have c0 : w9.cell? ⟨g1, 0, none⟩ = some (.slice (some ⟨gb, ob, none⟩) n cb) := by rw [(HC5.out.stays M9.out lC).at_]; rfl
   have c1 : w9.cell? ⟨g1, 1, none⟩ = some (.slice (some ⟨gm, 0, none⟩) n cm) := by rw [(HC5.out.stays M9.out lC).at_]; rfl
   have lk9 := hid (HLnk.out rax ray rbx rby w9 (M5.out.then_ (M9.out.low lB0')))
   go_wp2_with fail
   refine lk9.out.mono ?_
   rintro e v ⟨rfl, k10⟩
   have HR10 := hid (HR9.out.stays k10 HR9.out.here)
   have HP10 := hid (HP9.out.stays k10 HP9.out.here)
   have M10 : Hid (Made B1 W5 v) := M9.out.then_ (k10.low (by have := HR9.out.here; omega))
   have HO10 : Hid (∃ RR, RowsOf C i k a b nx ny (l.take j) RR ∧ v.ownsRow B1 67 14 (.slice orr j cr) j (flatE encR RR) ∧ some gR ≠ (Value.slice orr j cr).ownBlock) := by
    obtain ⟨RR, h1, h2, h3⟩ := HO9.out
    exact ⟨RR, h1, own_stays h2 k10, h3⟩
   clear k10 HR9 HP9 M9 HO9 q5 q6 q7 q8 c0 c1 lk9
   go_upto_region 10 with fail
   obtain ⟨W11, e11⟩ : ∃ W, W = v.alloc (.cells #[.pointer (some ⟨gb, oa, none⟩), .pointer (some ⟨gb, ok, none⟩), .int .i64 (mA a), .int .i64 (mI a), .int .i64 (moveB a), .int .i64 (spinB a), .int .i64 (mA b), .int .i64 (mI b), .int .i64 (moveB b), .int .i64 (spinB b), .int .i64 rax, .int .i64 ray, .int .i64 rbx, .int .i64 rby] 110) := ⟨_, rfl⟩
   obtain ⟨gL, egL⟩ : ∃ g, v.heap.size = g := ⟨_, rfl⟩
   have HL11 : Hid (Has W11 gL 110 #[.pointer (some ⟨gb, oa, none⟩), .pointer (some ⟨gb, ok, none⟩), .int .i64 (mA a), .int .i64 (mI a), .int .i64 (moveB a), .int .i64 (spinB a), .int .i64 (mA b), .int .i64 (mI b), .int .i64 (moveB b), .int .i64 (spinB b), .int .i64 rax, .int .i64 ray, .int .i64 rbx, .int .i64 rby]) := by unfold Hid; rw [e11, ← egL]; exact has_new _ _ _
   have k11 : Made v.heap.size v W11 := by rw [e11]; exact (Made.rfl_ _ _).cells (Nat.le_refl _) _ _
   have HR11 := hid (HR10.out.stays k11 HR10.out.here)
   have HP11 := hid (HP10.out.stays k11 HP10.out.here)
   have lL : gR < gL := by have := HR10.out.here; omega
   have M11 : Hid (Made B1 W5 W11) := M10.out.then_ (k11.low (by have := HR10.out.here; omega))
   have HO11 : Hid (∃ RR, RowsOf C i k a b nx ny (l.take j) RR ∧ W11.ownsRow B1 67 14 (.slice orr j cr) j (flatE encR RR) ∧ some gR ≠ (Value.slice orr j cr).ownBlock) := by
    obtain ⟨RR, h1, h2, h3⟩ := HO10.out
    exact ⟨RR, h1, own_stays h2 k11, h3⟩
   try rw [← e11]
   try rw [egL]
   clear e11 egL k11 HR10 HP10 M10 HO10
   obtain ⟨lx, elx⟩ : ∃ z, negF ny = z := ⟨_, rfl⟩
   obtain ⟨gn, egn⟩ : ∃ z, giveS a b (rax, ray) (rbx, rby) (nx, ny) = z := ⟨_, rfl⟩
   obtain ⟨gt, egt⟩ : ∃ z, giveS a b (rax, ray) (rbx, rby) (lx, nx) = z := ⟨_, rfl⟩
   have ilx : I64 lx := by rw [← elx]; exact i64_neg iny
   have ELX := hid elx; have EGN := hid egn; have EGT := hid egt
   clear elx egn egt
   refine RC.reg_stores (Sc gR 67 (pick3 #[.int .i64 (i : Nat), .int .i64 (k : Nat), .int .i64 pk, .int .i64 nx, .int .i64 ny, .int .i64 rax, .int .i64 ray, .int .i64 rbx, .int .i64 rby, .int .i64 0, .int .i64 0, .int .i64 po, .int .i64 0, .int .i64 0] #[.int .i64 (i : Nat), .int .i64 (k : Nat), .int .i64 pk, .int .i64 nx, .int .i64 ny, .int .i64 rax, .int .i64 ray, .int .i64 rbx, .int .i64 rby, .int .i64 gn, .int .i64 0, .int .i64 po, .int .i64 0, .int .i64 0] #[.int .i64 (i : Nat), .int .i64 (k : Nat), .int .i64 pk, .int .i64 nx, .int .i64 ny, .int .i64 rax, .int .i64 ray, .int .i64 rbx, .int .i64 rby, .int .i64 gn, .int .i64 gt, .int .i64 po, .int .i64 0, .int .i64 0]) W11) [10, 12] 111 (by kernel_rfl) (Sc.start HR11.out) (by kernel_rfl) rfl (by kernel_rfl) (by kernel_rfl) ?_
   apply Exists.intro
   refine ⟨?s1, ?s2, ?s3⟩
   case s1 =>
    intro s Ty hT f hf
    have n3 := scO hf 3 (pick3_at (u := .int .i64 nx) rfl rfl rfl s)
    have n4 := scO hf 4 (pick3_at (u := .int .i64 ny) rfl rfl rfl s)
    have HLs := hid (scH hf HL11.out (show ¬ gL = gR by omega))
    have HF := hid hf
    clear hf
    simp only [List.filter, Option.isSome]
    refine quiet_load_row rfl 110 (.tmp 17) rfl gL rfl 110 _ _ HLs.out Tryz.underlying110 rfl hszL ?_
    simp only [Act.put, List.setIfInBounds_toArray, List.set_cons_succ, List.set_cons_zero]
    go_big_quiet_step (fail)
    go_big_quiet_step (fail)
    go_big_quiet_step ((go_at_call 61; with_reducible exact scM HF.out (effective_c a b _ _ rax ray rbx rby nx ny gn _ irax iray irbx irby inx iny EGN.out)))
    refine quiet_load_row rfl 110 (.tmp 17) rfl gL rfl 110 _ _ HLs.out Tryz.underlying110 rfl hszL ?_
    simp only [Act.put, List.setIfInBounds_toArray, List.set_cons_succ, List.set_cons_zero]
    go_big_quiet_step (fail)
    go_big_quiet_step (fail)
    go_big_quiet_step ((go_at_call 81; with_reducible exact scM HF.out (vleft_is nx ny lx _ inx iny ELX.out)))
    go_big_quiet_step ((go_at_call 61; with_reducible exact scM HF.out (effective_c a b _ _ rax ray rbx rby lx nx gt _ irax iray irbx irby ilx inx EGT.out)))
    go_big_quiet_step (fail)
    go_big_quiet_step (fail)
    exact wpQuiet_nil rfl
   case s2 =>
    refine ⟨?_, ?_, trivial⟩
    ·show ∀ u, Sc gR 67 _ _ _ u → ∃ u', Sc gR 67 _ _ _ u' ∧ ((∃ x, (execOp _ _).run Tryz.prog u = .ok (.value x) u') ∨ (execOp _ _).run Tryz.prog u = .ok .skip u')
     intro u hu
     obtain ⟨hu1, hu2⟩ := hu
     have lR := hu2.here
     have fR := hu2.free
     have d9 : u.cell? ⟨gR, 9, none⟩ = some (.int .i64 0) := hu2.at_ 9
     refine ⟨(u).setCell ⟨gR, 9, none⟩ (.int .i64 gn), ⟨(hu1.put (p := ⟨gR, 9, none⟩) (.inl rfl) _), (hu2.put 9 _)⟩, ?_⟩
     clear hu1 hu2
     first | (refine .inl ⟨undef, ?_⟩; go_simp; done) | (refine .inr ?_; go_simp; done)
    ·show ∀ u, Sc gR 67 _ _ _ u → ∃ u', Sc gR 67 _ _ _ u' ∧ ((∃ x, (execOp _ _).run Tryz.prog u = .ok (.value x) u') ∨ (execOp _ _).run Tryz.prog u = .ok .skip u')
     intro u hu
     obtain ⟨hu1, hu2⟩ := hu
     have lR := hu2.here
     have fR := hu2.free
     have d10 : u.cell? ⟨gR, 10, none⟩ = some (.int .i64 0) := hu2.at_ 10
     refine ⟨(u).setCell ⟨gR, 10, none⟩ (.int .i64 gt), ⟨(hu1.put (p := ⟨gR, 10, none⟩) (.inl rfl) _), (hu2.put 10 _)⟩, ?_⟩
     clear hu1 hu2
     first | (refine .inl ⟨undef, ?_⟩; go_simp; done) | (refine .inr ?_; go_simp; done)
   intro w12 hu
   have hu : Sc gR 67 (pick3 #[.int .i64 (i : Nat), .int .i64 (k : Nat), .int .i64 pk, .int .i64 nx, .int .i64 ny, .int .i64 rax, .int .i64 ray, .int .i64 rbx, .int .i64 rby, .int .i64 0, .int .i64 0, .int .i64 po, .int .i64 0, .int .i64 0] #[.int .i64 (i : Nat), .int .i64 (k : Nat), .int .i64 pk, .int .i64 nx, .int .i64 ny, .int .i64 rax, .int .i64 ray, .int .i64 rbx, .int .i64 rby, .int .i64 gn, .int .i64 0, .int .i64 po, .int .i64 0, .int .i64 0] #[.int .i64 (i : Nat), .int .i64 (k : Nat), .int .i64 pk, .int .i64 nx, .int .i64 ny, .int .i64 rax, .int .i64 ray, .int .i64 rbx, .int .i64 rby, .int .i64 gn, .int .i64 gt, .int .i64 po, .int .i64 0, .int .i64 0]) W11 2 w12 := hu
   obtain ⟨kb, HRx⟩ := hu
   have HR12 : Hid (Has w12 gR 67 #[.int .i64 (i : Nat), .int .i64 (k : Nat), .int .i64 pk, .int .i64 nx, .int .i64 ny, .int .i64 rax, .int .i64 ray, .int .i64 rbx, .int .i64 rby, .int .i64 gn, .int .i64 gt, .int .i64 po, .int .i64 0, .int .i64 0]) := HRx
   have HP12 := hid (HP11.out.but kb (show ¬ gP = gR by omega))
   have M12 : Hid (Made B1 W5 w12) := But.made_ M11.out kb (by have := M11.out.1.size; have := EB1.out; omega) (fun b hb => by have : b = gR := hb; omega)
   have HO12 : Hid (∃ RR, RowsOf C i k a b nx ny (l.take j) RR ∧ w12.ownsRow B1 67 14 (.slice orr j cr) j (flatE encR RR) ∧ some gR ≠ (Value.slice orr j cr).ownBlock) := by
    obtain ⟨RR, h1, h2, h3⟩ := HO11.out
    exact ⟨RR, h1, own_butX h2 kb (fun b hb he => h3 (by rw [← hb]; exact congrArg some he.symm)), h3⟩
   clear kb HRx HR11 HP11 M11 HO11 HL11
   -- region 11
   have p3 : w12.cell? ⟨gP, 3, none⟩ = some (.int .i64 pk) := HP12.out.at_ 3
   have a0 : w12.cell? ⟨gA, 0, none⟩ = some (.int .i64 a.id) := by rw [(HA5.out.stays M12.out lA).at_]; rfl
   have b0 : w12.cell? ⟨gB, 0, none⟩ = some (.int .i64 b.id) := by rw [(HB5.out.stays M12.out lB).at_]; rfl
   have HW12 := hid (HW5.out.stays M12.out lW)
   have ct12 := hid (HCon.out pk w12 (M5.out.then_ (M12.out.low lB0')))
   have hszW : (Tryz.prog.info? 31).map (·.size) = some 8 := by kernel_rfl
   go_wp2_with (refine wpList_load_row rfl 31 (.tmp 4) rfl g0 rfl 31 _ (0, 0) _ HW12.out Tryz.underlying31 rfl hszW ?_)
   refine ct12.out.mono ?_
   rintro e v ⟨x, rr, rfl, k13, hx1, hx2⟩
   have HNX : Hid (NoteP C a.id b.id pk x) := by
    cases rr
    ·exact .inr (hx2 rfl)
    ·exact .inl (hx1 rfl)
   have HR13 := hid (HR12.out.stays k13 HR12.out.here)
   have HP13 := hid (HP12.out.stays k13 HP12.out.here)
   have M13 : Hid (Made B1 W5 v) := M12.out.then_ (k13.low (by have := HR12.out.here; omega))
   have HO13 : Hid (∃ RR, RowsOf C i k a b nx ny (l.take j) RR ∧ v.ownsRow B1 67 14 (.slice orr j cr) j (flatE encR RR) ∧ some gR ≠ (Value.slice orr j cr).ownBlock) := by
    obtain ⟨RR, h1, h2, h3⟩ := HO12.out
    exact ⟨RR, h1, own_stays h2 k13, h3⟩
   clear k13 HR12 HP12 M12 HO12 p3 a0 b0 ct12 HW12 hx1 hx2
   go_upto_region 12 with fail
   obtain ⟨W14, e14⟩ : ∃ W, W = v.alloc (.cells #[.int .i64 x.a, .int .i64 x.b, .int .i64 x.key, .int .i64 x.n, .int .i64 x.t] 118) := ⟨_, rfl⟩
   obtain ⟨gX, egX⟩ : ∃ g, v.heap.size = g := ⟨_, rfl⟩
   have HX14 : Hid (Has W14 gX 118 #[.int .i64 x.a, .int .i64 x.b, .int .i64 x.key, .int .i64 x.n, .int .i64 x.t]) := by unfold Hid; rw [e14, ← egX]; exact has_new _ _ _
   have k14 : Made v.heap.size v W14 := by rw [e14]; exact (Made.rfl_ _ _).cells (Nat.le_refl _) _ _
   have HR14 := hid (HR13.out.stays k14 HR13.out.here)
   have lX : gR < gX := by have := HR13.out.here; omega
   have M14 : Hid (Made B1 W5 W14) := M13.out.then_ (k14.low (by have := HR13.out.here; omega))
   have HO14 : Hid (∃ RR, RowsOf C i k a b nx ny (l.take j) RR ∧ W14.ownsRow B1 67 14 (.slice orr j cr) j (flatE encR RR) ∧ some gR ≠ (Value.slice orr j cr).ownBlock) := by
    obtain ⟨RR, h1, h2, h3⟩ := HO13.out
    exact ⟨RR, h1, own_stays h2 k14, h3⟩
   try rw [← e14]
   try rw [egX]
   clear e14 egX k14 HR13 HP13 M13 HO13
   obtain ⟨xa, xb, xk, xn, xt⟩ := x
   simp only at HX14
   refine RC.reg_stores (Sc gR 67 (pick3 #[.int .i64 (i : Nat), .int .i64 (k : Nat), .int .i64 pk, .int .i64 nx, .int .i64 ny, .int .i64 rax, .int .i64 ray, .int .i64 rbx, .int .i64 rby, .int .i64 gn, .int .i64 gt, .int .i64 po, .int .i64 0, .int .i64 0] #[.int .i64 (i : Nat), .int .i64 (k : Nat), .int .i64 pk, .int .i64 nx, .int .i64 ny, .int .i64 rax, .int .i64 ray, .int .i64 rbx, .int .i64 rby, .int .i64 gn, .int .i64 gt, .int .i64 po, .int .i64 xn, .int .i64 0] #[.int .i64 (i : Nat), .int .i64 (k : Nat), .int .i64 pk, .int .i64 nx, .int .i64 ny, .int .i64 rax, .int .i64 ray, .int .i64 rbx, .int .i64 rby, .int .i64 gn, .int .i64 gt, .int .i64 po, .int .i64 xn, .int .i64 xt]) W14) [5, 7] 111 (by kernel_rfl) (Sc.start HR14.out) (by kernel_rfl) rfl (by kernel_rfl) (by kernel_rfl) ?_
   apply Exists.intro
   refine ⟨?u1, ?u2, ?u3⟩
   case u1 =>
    intro s Ty hT f hf
    have x3 := scR hf (p := ⟨gX, 3, none⟩) (u := .int .i64 xn) (by rw [HX14.out.at_]; rfl) (show ¬ gX = gR by omega)
    have x4 := scR hf (p := ⟨gX, 4, none⟩) (u := .int .i64 xt) (by rw [HX14.out.at_]; rfl) (show ¬ gX = gR by omega)
    have HF := hid hf
    clear hf
    simp only [List.filter, Option.isSome]
    repeat (go_big_quiet_step (fail))
    exact wpQuiet_nil rfl
   case u2 =>
    refine ⟨?_, ?_, trivial⟩
    ·show ∀ u, Sc gR 67 _ _ _ u → ∃ u', Sc gR 67 _ _ _ u' ∧ ((∃ x, (execOp _ _).run Tryz.prog u = .ok (.value x) u') ∨ (execOp _ _).run Tryz.prog u = .ok .skip u')
     intro u hu
     obtain ⟨hu1, hu2⟩ := hu
     have lR := hu2.here
     have fR := hu2.free
     have d12 : u.cell? ⟨gR, 12, none⟩ = some (.int .i64 0) := hu2.at_ 12
     refine ⟨(u).setCell ⟨gR, 12, none⟩ (.int .i64 xn), ⟨(hu1.put (p := ⟨gR, 12, none⟩) (.inl rfl) _), (hu2.put 12 _)⟩, ?_⟩
     clear hu1 hu2
     first | (refine .inl ⟨undef, ?_⟩; go_simp; done) | (refine .inr ?_; go_simp; done)
    ·show ∀ u, Sc gR 67 _ _ _ u → ∃ u', Sc gR 67 _ _ _ u' ∧ ((∃ x, (execOp _ _).run Tryz.prog u = .ok (.value x) u') ∨ (execOp _ _).run Tryz.prog u = .ok .skip u')
     intro u hu
     obtain ⟨hu1, hu2⟩ := hu
     have lR := hu2.here
     have fR := hu2.free
     have d13 : u.cell? ⟨gR, 13, none⟩ = some (.int .i64 0) := hu2.at_ 13
     refine ⟨(u).setCell ⟨gR, 13, none⟩ (.int .i64 xt), ⟨(hu1.put (p := ⟨gR, 13, none⟩) (.inl rfl) _), (hu2.put 13 _)⟩, ?_⟩
     clear hu1 hu2
     first | (refine .inl ⟨undef, ?_⟩; go_simp; done) | (refine .inr ?_; go_simp; done)
   intro w15 hu
   have hu : Sc gR 67 (pick3 #[.int .i64 (i : Nat), .int .i64 (k : Nat), .int .i64 pk, .int .i64 nx, .int .i64 ny, .int .i64 rax, .int .i64 ray, .int .i64 rbx, .int .i64 rby, .int .i64 gn, .int .i64 gt, .int .i64 po, .int .i64 0, .int .i64 0] #[.int .i64 (i : Nat), .int .i64 (k : Nat), .int .i64 pk, .int .i64 nx, .int .i64 ny, .int .i64 rax, .int .i64 ray, .int .i64 rbx, .int .i64 rby, .int .i64 gn, .int .i64 gt, .int .i64 po, .int .i64 xn, .int .i64 0] #[.int .i64 (i : Nat), .int .i64 (k : Nat), .int .i64 pk, .int .i64 nx, .int .i64 ny, .int .i64 rax, .int .i64 ray, .int .i64 rbx, .int .i64 rby, .int .i64 gn, .int .i64 gt, .int .i64 po, .int .i64 xn, .int .i64 xt]) W14 2 w15 := hu
   obtain ⟨kb, HRx⟩ := hu
   have HR15 : Hid (Has w15 gR 67 #[.int .i64 (i : Nat), .int .i64 (k : Nat), .int .i64 pk, .int .i64 nx, .int .i64 ny, .int .i64 rax, .int .i64 ray, .int .i64 rbx, .int .i64 rby, .int .i64 gn, .int .i64 gt, .int .i64 po, .int .i64 xn, .int .i64 xt]) := HRx
   have M15 : Hid (Made B1 W5 w15) := But.made_ M14.out kb (by have := M14.out.1.size; have := EB1.out; omega) (fun b hb => by have : b = gR := hb; omega)
   have HO15 : Hid (∃ RR, RowsOf C i k a b nx ny (l.take j) RR ∧ w15.ownsRow B1 67 14 (.slice orr j cr) j (flatE encR RR) ∧ some gR ≠ (Value.slice orr j cr).ownBlock) := by
    obtain ⟨RR, h1, h2, h3⟩ := HO14.out
    exact ⟨RR, h1, own_butX h2 kb (fun b hb he => h3 (by rw [← hb]; exact congrArg some he.symm)), h3⟩
   clear kb HRx HR14 M14 HO14 HX14
   -- region 13
   have HEQ : Hid ([.int .i64 (i : Nat), .int .i64 (k : Nat), .int .i64 pk, .int .i64 nx, .int .i64 ny, .int .i64 rax, .int .i64 ray, .int .i64 rbx, .int .i64 rby, .int .i64 gn, .int .i64 gt, .int .i64 po, .int .i64 xn, .int .i64 xt] = encR (rowS i k a b (nx, ny) (px, py) pk pd xn xt)) := by
    unfold Hid
    simp only [encR, rowS, subS, leftS]
    rw [ERAX.out, ERAY.out, ERBX.out, ERBY.out, ELX.out, EGN.out, EGT.out, EPO.out]
   obtain ⟨RR, hRR, hOw, hgo⟩ := HO15.out
   have HRR := hid hRR
   have HOw : Hid ((w15.alloc (.cells #[.int .i64 (i : Nat), .int .i64 (k : Nat), .int .i64 pk, .int .i64 nx, .int .i64 ny, .int .i64 rax, .int .i64 ray, .int .i64 rbx, .int .i64 rby, .int .i64 gn, .int .i64 gt, .int .i64 po, .int .i64 xn, .int .i64 xt] 67)).ownsRow B1 67 14 (.slice orr j cr) j (flatE encR RR)) := hOw.alloc _
   have HNb : Hid (Has (w15.alloc (.cells #[.int .i64 (i : Nat), .int .i64 (k : Nat), .int .i64 pk, .int .i64 nx, .int .i64 ny, .int .i64 rax, .int .i64 ray, .int .i64 rbx, .int .i64 rby, .int .i64 gn, .int .i64 gt, .int .i64 po, .int .i64 xn, .int .i64 xt] 67)) w15.heap.size 67 #[.int .i64 (i : Nat), .int .i64 (k : Nat), .int .i64 pk, .int .i64 nx, .int .i64 ny, .int .i64 rax, .int .i64 ray, .int .i64 rbx, .int .i64 rby, .int .i64 gn, .int .i64 gt, .int .i64 po, .int .i64 xn, .int .i64 xt]) := has_new _ _ _
   have HBw : Hid (Made B1 W5 (w15.alloc (.cells #[.int .i64 (i : Nat), .int .i64 (k : Nat), .int .i64 pk, .int .i64 nx, .int .i64 ny, .int .i64 rax, .int .i64 ray, .int .i64 rbx, .int .i64 rby, .int .i64 gn, .int .i64 gt, .int .i64 po, .int .i64 xn, .int .i64 xt] 67))) := M15.out.cells (by have := M15.out.1.size; have := EB1.out; omega) _ _
   have hs5 : B1 ≤ w15.heap.size := by have := M15.out.1.size; have := EB1.out; omega
   have HE1 : Hid (∀ u ∈ ([.int .i64 (i : Nat), .int .i64 (k : Nat), .int .i64 pk, .int .i64 nx, .int .i64 ny, .int .i64 rax, .int .i64 ray, .int .i64 rbx, .int .i64 rby, .int .i64 gn, .int .i64 gt, .int .i64 po, .int .i64 xn, .int .i64 xt] : List Value), u.oneCell' = true) := by unfold Hid; rw [HEQ.out]; exact encR_one _
   clear hRR hOw hgo HO15
   go_wp2_with (first
    | refine wpList_load_row rfl 67 (.tmp 16) rfl gR rfl 67 _ (0, 0) _ HR15.out Tryz.underlying67 rfl hszR ?_
    | (at_builtin; refine wpList_append_at rfl (.tmp 105) (.tmp 107) 61 rfl B1 67 iO (.agg #[.int .i64 0, .int .i64 0, .int .i64 0, .int .i64 0, .int .i64 0, .int .i64 0, .int .i64 0, .int .i64 0, .int .i64 0, .int .i64 0, .int .i64 0, .int .i64 0, .int .i64 0, .int .i64 0]) 14 112 Tryz.underlying61 iHi.out iH0.out iH1.out iH2.out rfl (by decide) (.slice orr j cr) j (flatE encR RR) rfl HOw.out ⟨w15.heap.size, 0, none⟩ 1 1 [.int .i64 (i : Nat), .int .i64 (k : Nat), .int .i64 pk, .int .i64 nx, .int .i64 ny, .int .i64 rax, .int .i64 ray, .int .i64 rbx, .int .i64 rby, .int .i64 gn, .int .i64 gt, .int .i64 po, .int .i64 xn, .int .i64 xt] rfl rfl (has_news HNb.out) HE1.out (by unfold maxLen; omega) (by omega) (by simp; omega) (by omega) ?_))
   intro v6 w6 hown hbt hnx
   have M16 : Hid (Made B1 W5 w6) := But.made_ HBw.out hbt (by simp; omega) (fun b hb => by have := (HOw.out.lt b hb.symm).1; omega)
   rw [HEQ.out, flatE_snoc] at hown
   obtain ⟨om6, cm6, rfl⟩ : ∃ o c, v6 = .slice o (j + 1) c := by
    rcases hown.2 with ⟨_, h⟩ | ⟨g, cap, cur, e, _⟩
    ·omega
    ·exact ⟨_, _, e⟩
   have HO6 : Hid (∃ RR, RowsOf C i k a b nx ny (l.take (j + 1)) RR ∧ w6.ownsRow B1 67 14 (.slice om6 (j + 1) cm6) (j + 1) (flatE encR RR)) := ⟨_, HRR.out.snoc HPs.out HNX.out, hown⟩
   clear hown hbt hnx HOw HNb HBw HRR HR15 M15
   go_wp2_with fail
   go_roundg (m - (j + 1))
   case measure => omega
   case rel => exact ⟨j + 1, by omega, by go_num, ⟨om6, cm6, rfl, HO6.out⟩, M16.out⟩
  ·have e : j = m := by omega
   subst e
   go_wp2_with fail
   go_ret
   obtain ⟨RR, h1, h2⟩ := HO.out
   rw [List.take_of_length_le (by rw [HEM.out]; exact Nat.le_refl _)] at h1
   exact ⟨orr, cr, RR, rfl, h1, own_low h2 lB0', M5.out.then_ (HM.out.low lB0')⟩
end Go.Proofs.YtjhcejmfiekjgaaGreat.Fx