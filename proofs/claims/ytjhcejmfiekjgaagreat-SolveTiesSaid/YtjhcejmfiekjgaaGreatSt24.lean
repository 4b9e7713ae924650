/- SpB -/
import Derived.Test.YtjhcejmfiekjgaaGreatSt20
import Derived.Test.YtjhcejmfiekjgaaGreatSt21
import Derived.Test.YtjhcejmfiekjgaaGreatSt23
set_option maxRecDepth 100000
set_option maxHeartbeats 64000000
/- Package solve: the tie of a joint. -/
namespace Go.Proofs.YtjhcejmfiekjgaaGreat.Fx
open Go.ChangeShapes Go.WideShapes Go.ChangeAt Go.RowKit
set_option linter.unusedVariables false
def rotS (k : Int) (p : Int × Int) : Int × Int := (subF (mulF (cs k) p.1) (mulF (sn k) p.2), addF (mulF (sn k) p.1) (mulF (cs k) p.2))
def normS (d : Int × Int) : Int × Int := if lenF d.1 d.2 = 0 then (4294967296, 0) else (divF d.1 (lenF d.1 d.2), divF d.2 (lenF d.1 d.2))
def tieF (i k : Nat) (a b : Bd) (j : Jt) : Ti :=
 let ra := rotS (stepF a.an) (j.ax, j.ay)
 let rb := rotS (stepF b.an) (j.tx, j.ty)
 let d := subS (addS (b.x, b.y) rb) (addS (a.x, a.y) ra)
 let n := normS d
 ⟨i, k, n, ra, rb, giveS a b ra rb n, offS (lenF d.1 d.2) j.ln⟩
theorem put10 {w : World} {g : Nat} {t : TypeId} {z0 z1 z2 z3 z4 z5 z6 z7 z8 z9 c0 c1 c2 c3 c4 c5 c6 c7 c8 c9 : Value} (h : Has w g t #[z0, z1, z2, z3, z4, z5, z6, z7, z8, z9]) :
  Has (((((((((((w.setCell ⟨g, 0, none⟩ c0).setCell ⟨g, 1, none⟩ c1).setCell ⟨g, 2, none⟩ c2).setCell ⟨g, 3, none⟩ c3).setCell ⟨g, 4, none⟩ c4).setCell ⟨g, 5, none⟩ c5).setCell ⟨g, 6, none⟩ c6).setCell ⟨g, 7, none⟩ c7).setCell ⟨g, 8, none⟩ c8).setCell ⟨g, 9, none⟩ c9)) g t #[c0, c1, c2, c3, c4, c5, c6, c7, c8, c9] := by
 have h0 := h.put 0 c0
 simp only [List.setIfInBounds_toArray, List.set_cons_zero] at h0
 have h1 := h0.put 1 c1
 simp only [List.setIfInBounds_toArray, List.set_cons_succ, List.set_cons_zero] at h1
 have h2 := h1.put 2 c2
 simp only [List.setIfInBounds_toArray, List.set_cons_succ, List.set_cons_zero] at h2
 have h3 := h2.put 3 c3
 simp only [List.setIfInBounds_toArray, List.set_cons_succ, List.set_cons_zero] at h3
 have h4 := h3.put 4 c4
 simp only [List.setIfInBounds_toArray, List.set_cons_succ, List.set_cons_zero] at h4
 have h5 := h4.put 5 c5
 simp only [List.setIfInBounds_toArray, List.set_cons_succ, List.set_cons_zero] at h5
 have h6 := h5.put 6 c6
 simp only [List.setIfInBounds_toArray, List.set_cons_succ, List.set_cons_zero] at h6
 have h7 := h6.put 7 c7
 simp only [List.setIfInBounds_toArray, List.set_cons_succ, List.set_cons_zero] at h7
 have h8 := h7.put 8 c8
 simp only [List.setIfInBounds_toArray, List.set_cons_succ, List.set_cons_zero] at h8
 have h9 := h8.put 9 c9
 simp only [List.setIfInBounds_toArray, List.set_cons_succ, List.set_cons_zero] at h9
 exact h9
theorem made10 {B g : Nat} {a w : World} {c0 c1 c2 c3 c4 c5 c6 c7 c8 c9 : Value} (h : Made B a w) (hg : B ≤ g) :
  Made B a (((((((((((w.setCell ⟨g, 0, none⟩ c0).setCell ⟨g, 1, none⟩ c1).setCell ⟨g, 2, none⟩ c2).setCell ⟨g, 3, none⟩ c3).setCell ⟨g, 4, none⟩ c4).setCell ⟨g, 5, none⟩ c5).setCell ⟨g, 6, none⟩ c6).setCell ⟨g, 7, none⟩ c7).setCell ⟨g, 8, none⟩ c8).setCell ⟨g, 9, none⟩ c9)) := by
 have h0 := h.put (p := ⟨g, 0, none⟩) hg c0
 have h1 := h0.put (p := ⟨g, 1, none⟩) hg c1
 have h2 := h1.put (p := ⟨g, 2, none⟩) hg c2
 have h3 := h2.put (p := ⟨g, 3, none⟩) hg c3
 have h4 := h3.put (p := ⟨g, 4, none⟩) hg c4
 have h5 := h4.put (p := ⟨g, 5, none⟩) hg c5
 have h6 := h5.put (p := ⟨g, 6, none⟩) hg c6
 have h7 := h6.put (p := ⟨g, 7, none⟩) hg c7
 have h8 := h7.put (p := ⟨g, 8, none⟩) hg c8
 have h9 := h8.put (p := ⟨g, 9, none⟩) hg c9
 exact h9
theorem tie_c {gb ob n cb gm cm i k : Nat} {L : List Bd} {a b : Bd} {j : Jt} {w : World} (hL : LsB encB 11 w gb ob L) (hgb : gb < w.heap.size) (hM : LsB encM 4 w gm 0 L) (hgm : gm < w.heap.size)
  (hi : L[i]? = some a) (hk : L[k]? = some b) (hin : i < n) (hkn : k < n) (hJ : JtI j) (hA : BdI a) (hB : BdI b) :
  Calls Tryz.prog 25 #[.agg #[.slice (some ⟨gb, ob, none⟩) n cb, .slice (some ⟨gm, 0, none⟩) n cm], jtV j, .int .i64 (i : Nat), .int .i64 (k : Nat)] w fun e u => e = .returned (.agg (encTi (tieF i k a b j)).toArray) ∧ Made w.heap.size w u := by
 obtain ⟨jid, ja, jb, jax, jay, jtx, jty, jln⟩ := j
 obtain ⟨_, _, _, ijax, ijay, ijtx, ijty, ijln⟩ := hJ
 simp only at ijax ijay ijtx ijty ijln
 obtain ⟨ka, eka⟩ : ∃ x, stepF a.an = x := ⟨_, rfl⟩
 obtain ⟨kb, ekb⟩ : ∃ x, stepF b.an = x := ⟨_, rfl⟩
 obtain ⟨ca, eca⟩ : ∃ x, cs ka = x := ⟨_, rfl⟩
 obtain ⟨sa, esa⟩ : ∃ x, sn ka = x := ⟨_, rfl⟩
 obtain ⟨cb', ecb⟩ : ∃ x, cs kb = x := ⟨_, rfl⟩
 obtain ⟨sb, esb⟩ : ∃ x, sn kb = x := ⟨_, rfl⟩
 have ica : I64 ca := by rw [← eca]; exact I64_cs _
 have isa : I64 sa := by rw [← esa]; exact I64_sn _
 have icb : I64 cb' := by rw [← ecb]; exact I64_cs _
 have isb : I64 sb := by rw [← esb]; exact I64_sn _
 obtain ⟨rax, e1⟩ : ∃ x, subF (mulF ca jax) (mulF sa jay) = x := ⟨_, rfl⟩
 obtain ⟨ray, e2⟩ : ∃ x, addF (mulF sa jax) (mulF ca jay) = x := ⟨_, rfl⟩
 obtain ⟨rbx, e3⟩ : ∃ x, subF (mulF cb' jtx) (mulF sb jty) = x := ⟨_, rfl⟩
 obtain ⟨rby, e4⟩ : ∃ x, addF (mulF sb jtx) (mulF cb' jty) = x := ⟨_, rfl⟩
 have irax : I64 rax := by rw [← e1]; exact i64_sub _ _
 have iray : I64 ray := by rw [← e2]; exact i64_add _ _
 have irbx : I64 rbx := by rw [← e3]; exact i64_sub _ _
 have irby : I64 rby := by rw [← e4]; exact i64_add _ _
 obtain ⟨px, e5⟩ : ∃ x, addF b.x rbx = x := ⟨_, rfl⟩
 obtain ⟨py, e6⟩ : ∃ x, addF b.y rby = x := ⟨_, rfl⟩
 obtain ⟨qx, e7⟩ : ∃ x, addF a.x rax = x := ⟨_, rfl⟩
 obtain ⟨qy, e8⟩ : ∃ x, addF a.y ray = x := ⟨_, rfl⟩
 have ipx : I64 px := by rw [← e5]; exact i64_add _ _
 have ipy : I64 py := by rw [← e6]; exact i64_add _ _
 have iqx : I64 qx := by rw [← e7]; exact i64_add _ _
 have iqy : I64 qy := by rw [← e8]; exact i64_add _ _
 obtain ⟨dx, e9⟩ : ∃ x, subF px qx = x := ⟨_, rfl⟩
 obtain ⟨dy, e10⟩ : ∃ x, subF py qy = x := ⟨_, rfl⟩
 have idx : I64 dx := by rw [← e9]; exact i64_sub _ _
 have idy : I64 dy := by rw [← e10]; exact i64_sub _ _
 obtain ⟨ln, e11⟩ : ∃ x, lenF dx dy = x := ⟨_, rfl⟩
 have iln : I64 ln := by rw [← e11]; exact i64_len _ _
 obtain ⟨⟨nx, ny⟩, e12⟩ : ∃ x, normS (dx, dy) = x := ⟨_, rfl⟩
 have hno : (ln = 0 → nx = 4294967296 ∧ ny = 0) ∧ (ln ≠ 0 → divF dx ln = nx ∧ divF dy ln = ny) := by
  unfold normS at e12
  rw [e11] at e12
  constructor
  ·intro h; rw [if_pos h] at e12; cases e12; exact ⟨rfl, rfl⟩
  ·intro h; rw [if_neg h] at e12; cases e12; exact ⟨rfl, rfl⟩
 have inx : I64 nx := by
  by_cases h : ln = 0
  ·rw [(hno.1 h).1]; unfold I64; omega
  ·rw [← (hno.2 h).1]; exact i64_div _ _
 have iny : I64 ny := by
  by_cases h : ln = 0
  ·rw [(hno.1 h).2]; unfold I64; omega
  ·rw [← (hno.2 h).2]; exact i64_div _ _
 obtain ⟨gg, e13⟩ : ∃ x, giveS a b (rax, ray) (rbx, rby) (nx, ny) = x := ⟨_, rfl⟩
 obtain ⟨rr, e14⟩ : ∃ x, partF 64 5 = x := ⟨_, rfl⟩
 have irr : I64 rr := by rw [← e14]; exact i64_div _ _
 obtain ⟨lo, e15⟩ : ∃ x, subF ln jln = x := ⟨_, rfl⟩
 have ilo : I64 lo := by rw [← e15]; exact i64_sub _ _
 obtain ⟨ml, e16⟩ : ∃ x, mulF rr lo = x := ⟨_, rfl⟩
 have iml : I64 ml := by rw [← e16]; exact i64_mul _ _
 obtain ⟨oo, e17⟩ : ∃ x, bringF ml (-17179869184) 17179869184 = x := ⟨_, rfl⟩
 have HF : Hid (tieF i k a b ⟨jid, ja, jb, jax, jay, jtx, jty, jln⟩ = ⟨i, k, (nx, ny), (rax, ray), (rbx, rby), gg, oo⟩) := by
  unfold Hid tieF rotS subS addS offS
  simp only [eka, ekb, eca, esa, ecb, esb, e1, e2, e3, e4, e5, e6, e7, e8, e9, e10, e11, e12, e13, e14, e15, e16, e17]
 obtain ⟨oa, eoa⟩ : ∃ o, ob + i * 11 = o := ⟨_, rfl⟩
 obtain ⟨ok, eok⟩ : ∃ o, ob + k * 11 = o := ⟨_, rfl⟩
 have HLA := hid (fun v (kk : Made w.heap.size w v) => ((hL.below kk.1 hgb) i a hi : ElT encB v gb (ob + i * 11) a))
 have HLB := hid (fun v (kk : Made w.heap.size w v) => ((hL.below kk.1 hgb) k b hk : ElT encB v gb (ob + k * 11) b))
 rw [eoa] at HLA
 rw [eok] at HLB
 have HLnk := hid (fun v (kk : Made w.heap.size w v) => link_c (gb := gb) (ob := ob) (cb := cb) (cm := cm) (oa := oa) (ok := ok) rax ray rbx rby v (hM.below kk.1 hgm) hi hk hin hkn eoa eok)
 have iAx := hA.x; have iAy := hA.y; have iAa := hA.an; have iBx := hB.x; have iBy := hB.y; have iBa := hB.an
 have EKA := hid eka; have EKB := hid ekb; have ECA := hid eca; have ESA := hid esa; have ECB := hid ecb; have ESB := hid esb
 have E1 := hid e1; have E2 := hid e2; have E3 := hid e3; have E4 := hid e4; have E5 := hid e5; have E6 := hid e6; have E7 := hid e7; have E8 := hid e8; have E9 := hid e9; have E10 := hid e10; have E11 := hid e11; have E13 := hid e13; have E14 := hid e14; have E15 := hid e15; have E16 := hid e16; have E17 := hid e17; have HNO := hid hno
 clear hL hM hi hk hA hB eka ekb eca esa ecb esb e1 e2 e3 e4 e5 e6 e7 e8 e9 e10 e11 e12 e13 e14 e15 e16 e17 hno
 have HRotA : Hid (∀ v, Calls Tryz.prog 8 #[.int .i64 a.an] v fun e v' => e = .returned (rotV ca sa) ∧ Made v.heap.size v v') := fun v => (turnOf_is a.an ka v iAa EKA.out).mono fun e v' h => by rw [ECA.out, ESA.out] at h; exact h
 have HRotB : Hid (∀ v, Calls Tryz.prog 8 #[.int .i64 b.an] v fun e v' => e = .returned (rotV cb' sb) ∧ Made v.heap.size v v') := fun v => (turnOf_is b.an kb v iBa EKB.out).mono fun e v' h => by rw [ECB.out, ESB.out] at h; exact h
 obtain ⟨W1, eW⟩ : ∃ W, W = ((w.alloc (.cells #[.slice (some ⟨gb, ob, none⟩) n cb, .slice (some ⟨gm, 0, none⟩) n cm] 79)).alloc (.cells #[.int .i64 jid, .int .i64 ja, .int .i64 jb, .int .i64 jax, .int .i64 jay, .int .i64 jtx, .int .i64 jty, .int .i64 jln] 36)).alloc (.cells #[.int .i64 0, .int .i64 0, .int .i64 0, .int .i64 0, .int .i64 0, .int .i64 0, .int .i64 0, .int .i64 0, .int .i64 0, .int .i64 0] 38) := ⟨_, rfl⟩
 have M1 : Hid (Made w.heap.size w W1) := by unfold Hid; rw [eW]; exact (((Made.rfl_ _ _).cells (Nat.le_refl _) _ _).cells (by simp) _ _).cells (by simp; omega) _ _
 have HC1 : Hid (Has W1 w.heap.size 79 #[.slice (some ⟨gb, ob, none⟩) n cb, .slice (some ⟨gm, 0, none⟩) n cm]) := by unfold Hid; rw [eW]; exact ((has_new _ _ _).more _).more _
 have HJ1 : Hid (Has W1 (w.heap.size + 1) 36 #[.int .i64 jid, .int .i64 ja, .int .i64 jb, .int .i64 jax, .int .i64 jay, .int .i64 jtx, .int .i64 jty, .int .i64 jln]) := by unfold Hid; rw [eW]; exact (has_next _ _ _ _).more _
 have HZ1 : Hid (Has W1 (w.heap.size + 1 + 1) 38 #[.int .i64 0, .int .i64 0, .int .i64 0, .int .i64 0, .int .i64 0, .int .i64 0, .int .i64 0, .int .i64 0, .int .i64 0, .int .i64 0]) := by
  unfold Hid
  rw [eW]
  have h := has_new ((w.alloc (.cells #[.slice (some ⟨gb, ob, none⟩) n cb, .slice (some ⟨gm, 0, none⟩) n cm] 79)).alloc (.cells #[.int .i64 jid, .int .i64 ja, .int .i64 jb, .int .i64 jax, .int .i64 jay, .int .i64 jtx, .int .i64 jty, .int .i64 jln] 36)) 38 #[.int .i64 0, .int .i64 0, .int .i64 0, .int .i64 0, .int .i64 0, .int .i64 0, .int .i64 0, .int .i64 0, .int .i64 0, .int .i64 0]
  rwa [World.size_alloc, World.size_alloc] at h
 obtain ⟨g0, eg0⟩ : ∃ g, w.heap.size = g := ⟨_, rfl⟩
 obtain ⟨g1, eg1⟩ : ∃ g, g0 + 1 = g := ⟨_, rfl⟩
 obtain ⟨g2, eg2⟩ : ∃ g, g1 + 1 = g := ⟨_, rfl⟩
 rw [eg0] at HC1 HJ1 HZ1
 rw [eg1] at HJ1 HZ1
 rw [eg2] at HZ1
 have EG0 := hid eg0
 have hin' : (i : Int) < (n : Int) := by omega
 have hkn' : (k : Int) < (n : Int) := by omega
 have l2 : g2 < W1.heap.size := HZ1.out.here
 have l0 : g0 < W1.heap.size := HC1.out.here
 go_enter Tryz.func25, Tryz.ntmps25
 go_upto_region 1 with fail
 try rw [← eW]
 try rw [eg0]
 try rw [eg1]
 try rw [eg2]
 clear eW eg0
 have c0 : W1.cell? ⟨g0, 0, none⟩ = some (.slice (some ⟨gb, ob, none⟩) n cb) := HC1.out.at_ 0
 have a0 : W1.cell? ⟨gb, oa, none⟩ = some (.int .i64 a.id) := HLA.out W1 M1.out 0 _ rfl
 have a1 : W1.cell? ⟨gb, oa + 1, none⟩ = some (.int .i64 a.x) := HLA.out W1 M1.out 1 _ rfl
 have a2 : W1.cell? ⟨gb, oa + 2, none⟩ = some (.int .i64 a.y) := HLA.out W1 M1.out 2 _ rfl
 have a3 : W1.cell? ⟨gb, oa + 3, none⟩ = some (.int .i64 a.vx) := HLA.out W1 M1.out 3 _ rfl
 have a4 : W1.cell? ⟨gb, oa + 4, none⟩ = some (.int .i64 a.vy) := HLA.out W1 M1.out 4 _ rfl
 have a5 : W1.cell? ⟨gb, oa + 5, none⟩ = some (.int .i64 a.an) := HLA.out W1 M1.out 5 _ rfl
 have a6 : W1.cell? ⟨gb, oa + 6, none⟩ = some (.int .i64 a.sp) := HLA.out W1 M1.out 6 _ rfl
 have a7 : W1.cell? ⟨gb, oa + 7, none⟩ = some (.int .i64 a.de) := HLA.out W1 M1.out 7 _ rfl
 have a8 : W1.cell? ⟨gb, oa + 8, none⟩ = some (.int .i64 a.k) := HLA.out W1 M1.out 8 _ rfl
 have a9 : W1.cell? ⟨gb, oa + 9, none⟩ = some (.int .i64 a.r) := HLA.out W1 M1.out 9 _ rfl
 have a10 : W1.cell? ⟨gb, oa + 10, none⟩ = some (.slice a.ao a.n a.c) := HLA.out W1 M1.out 10 _ rfl
 have b0 : W1.cell? ⟨gb, ok, none⟩ = some (.int .i64 b.id) := HLB.out W1 M1.out 0 _ rfl
 have b1 : W1.cell? ⟨gb, ok + 1, none⟩ = some (.int .i64 b.x) := HLB.out W1 M1.out 1 _ rfl
 have b2 : W1.cell? ⟨gb, ok + 2, none⟩ = some (.int .i64 b.y) := HLB.out W1 M1.out 2 _ rfl
 have b3 : W1.cell? ⟨gb, ok + 3, none⟩ = some (.int .i64 b.vx) := HLB.out W1 M1.out 3 _ rfl
 have b4 : W1.cell? ⟨gb, ok + 4, none⟩ = some (.int .i64 b.vy) := HLB.out W1 M1.out 4 _ rfl
 have b5 : W1.cell? ⟨gb, ok + 5, none⟩ = some (.int .i64 b.an) := HLB.out W1 M1.out 5 _ rfl
 have b6 : W1.cell? ⟨gb, ok + 6, none⟩ = some (.int .i64 b.sp) := HLB.out W1 M1.out 6 _ rfl
 have b7 : W1.cell? ⟨gb, ok + 7, none⟩ = some (.int .i64 b.de) := HLB.out W1 M1.out 7 _ rfl
 have b8 : W1.cell? ⟨gb, ok + 8, none⟩ = some (.int .i64 b.k) := HLB.out W1 M1.out 8 _ rfl
 have b9 : W1.cell? ⟨gb, ok + 9, none⟩ = some (.int .i64 b.r) := HLB.out W1 M1.out 9 _ rfl
 have b10 : W1.cell? ⟨gb, ok + 10, none⟩ = some (.slice b.ao b.n b.c) := HLB.out W1 M1.out 10 _ rfl
 have lgb : gb < W1.heap.size := World.block_lt_of_cell? (a := ⟨gb, oa, none⟩) W1 a0
 go_cut [9, 10] (fun s9 s10 wx => ∃ gA gB, s9 = .pointer (some ⟨gA, 0, none⟩) ∧ s10 = .pointer (some ⟨gB, 0, none⟩) ∧ gA ≠ gB ∧ W1.heap.size ≤ gA ∧ W1.heap.size ≤ gB ∧ Hid (Has wx gA 43 #[.int .i64 a.id, .int .i64 a.x, .int .i64 a.y, .int .i64 a.vx, .int .i64 a.vy, .int .i64 a.an, .int .i64 a.sp, .int .i64 a.de, .int .i64 a.k, .int .i64 a.r, .slice a.ao a.n a.c]) ∧ Hid (Has wx gB 43 #[.int .i64 b.id, .int .i64 b.x, .int .i64 b.y, .int .i64 b.vx, .int .i64 b.vy, .int .i64 b.an, .int .i64 b.sp, .int .i64 b.de, .int .i64 b.k, .int .i64 b.r, .slice b.ao b.n b.c]) ∧ Hid (Made W1.heap.size W1 wx))
 case first =>
  go_region
  ·go_wp2_with fail
   go_meet
   exact ⟨W1.heap.size, W1.heap.size + 1, rfl, rfl, by omega, by omega, by omega, ((has_new _ _ _).more _).drawn 1, (has_next _ _ _ _).drawn 1, (((Made.rfl_ _ _).cells (Nat.le_refl _) _ _).cells (by simp) _ _).draws 1⟩
  ·go_wp2_with fail
   go_meet
   exact ⟨W1.heap.size + 1, W1.heap.size, rfl, rfl, by omega, by omega, by omega, (has_next _ _ _ _).drawn 1, ((has_new _ _ _).more _).drawn 1, (((Made.rfl_ _ _).cells (Nat.le_refl _) _ _).cells (by simp) _ _).draws 1⟩
 obtain ⟨gA, gB, rfl, rfl, hne, hgA, hgB, HA3, HB3, HK⟩ := hcut
 have HC3 := hid (HC1.out.stays HK.out HC1.out.here)
 have HJ3 := hid (HJ1.out.stays HK.out HJ1.out.here)
 have HZ3 := hid (HZ1.out.stays HK.out HZ1.out.here)
 have M3 : Hid (Made w.heap.size w wc) := M1.out.then_ (HK.out.low M1.out.1.size)
 have L0 : Hid (w.heap.size ≤ g2 ∧ g1 < W1.heap.size ∧ W1.heap.size ≤ gA ∧ W1.heap.size ≤ gB ∧ w.heap.size ≤ W1.heap.size) := ⟨by have := EG0.out; omega, by omega, hgA, hgB, M1.out.1.size⟩
 clear HK HC1 HJ1 HZ1 M1 HLA HLB a0 a1 a2 a3 a4 a5 a6 a7 a8 a9 a10 b0 b1 b2 b3 b4 b5 b6 b7 b8 b9 b10 c0 lgb
 -- region 2: the tie begun
 go_upto_region 3 with fail
 obtain ⟨W4, eW4⟩ : ∃ W, W = wc.alloc (.cells #[.int .i64 (i : Nat), .int .i64 (k : Nat), .int .i64 0, .int .i64 0, .int .i64 0, .int .i64 0, .int .i64 0, .int .i64 0, .int .i64 0, .int .i64 0] 38) := ⟨_, rfl⟩
 obtain ⟨gt, egt⟩ : ∃ g, wc.heap.size = g := ⟨_, rfl⟩
 have k4 : Made wc.heap.size wc W4 := by rw [eW4]; exact (Made.rfl_ _ _).cells (Nat.le_refl _) _ _
 have HT4 : Hid (Has W4 gt 38 #[.int .i64 (i : Nat), .int .i64 (k : Nat), .int .i64 0, .int .i64 0, .int .i64 0, .int .i64 0, .int .i64 0, .int .i64 0, .int .i64 0, .int .i64 0]) := by unfold Hid; rw [eW4, ← egt]; exact has_new _ _ _
 have HC4 := hid (HC3.out.stays k4 HC3.out.here)
 have HJ4 := hid (HJ3.out.stays k4 HJ3.out.here)
 have HZ4 := hid (HZ3.out.stays k4 HZ3.out.here)
 have HA4 := hid (HA3.out.stays k4 HA3.out.here)
 have HB4 := hid (HB3.out.stays k4 HB3.out.here)
 have M4 : Hid (Made w.heap.size w W4) := M3.out.then_ (k4.low M3.out.1.size)
 have LT : Hid (gA < gt ∧ gB < gt ∧ g2 < gt) := ⟨by rw [← egt]; exact HA3.out.here, by rw [← egt]; exact HB3.out.here, by rw [← egt]; exact HZ3.out.here⟩
 try rw [← eW4]
 try rw [egt]
 clear eW4 egt k4 HC3 HJ3 HZ3 HA3 HB3 M3
 -- region 3
 refine reg_made_tail 7 (by kernel_rfl) (by kernel_rfl) ?_
 intro T hT fw hf
 have z0 := Class.reads hf (show W4.cell? ⟨gA, 5, none⟩ = some (.int .i64 a.an) from HA4.out.at_ 5)
 have z1 := Class.reads hf (show W4.cell? ⟨g1, 3, none⟩ = some (.int .i64 jax) from HJ4.out.at_ 3)
 have z2 := Class.reads hf (show W4.cell? ⟨g1, 4, none⟩ = some (.int .i64 jay) from HJ4.out.at_ 4)
 have H1 := hid (fun t => hf.made (x := t) (HRotA.out (fw t)))
 have H2 := hid (fun t => hf.made (x := t) (vapply_is ca sa jax jay rax ray (fw t) ica isa ijax ijay E1.out E2.out))
 simp only [List.take_succ_cons, List.take_zero, List.drop_succ_cons, List.drop_zero]
 repeat (go_big_quiet_step ((first
  | (go_at_call 8; with_reducible exact H1.out _)
  | (go_at_call 7; with_reducible exact H2.out _))))
 refine wpQuiet_nil ?_
 intro v4 h4
 have k4 := hf.here h4
 obtain ⟨W5, e5⟩ : ∃ W, W = (v4.setCell ⟨gt, 4, none⟩ (.int .i64 rax)).setCell ⟨gt, 5, none⟩ (.int .i64 ray) := ⟨_, rfl⟩
 have t0 := (HT4.out.stays k4 HT4.out.here)
 have HT5 : Hid (Has W5 gt 38 #[.int .i64 (i : Nat), .int .i64 (k : Nat), .int .i64 0, .int .i64 0, .int .i64 rax, .int .i64 ray, .int .i64 0, .int .i64 0, .int .i64 0, .int .i64 0]) := by unfold Hid; rw [e5]; exact (t0.put 4 (.int .i64 rax)).put 5 (.int .i64 ray)
 have HC5 : Hid (Has W5 g0 79 #[.slice (some ⟨gb, ob, none⟩) n cb, .slice (some ⟨gm, 0, none⟩) n cm]) := by unfold Hid; rw [e5]; exact ((HC4.out.stays k4 HC4.out.here).other _ (by have := LT.out; have := L0.out; show g0 ≠ gt; omega) _).other _ (by have := LT.out; have := L0.out; show g0 ≠ gt; omega) _
 have HJ5 : Hid (Has W5 g1 36 #[.int .i64 jid, .int .i64 ja, .int .i64 jb, .int .i64 jax, .int .i64 jay, .int .i64 jtx, .int .i64 jty, .int .i64 jln]) := by unfold Hid; rw [e5]; exact ((HJ4.out.stays k4 HJ4.out.here).other _ (by have := LT.out; have := L0.out; show g1 ≠ gt; omega) _).other _ (by have := LT.out; have := L0.out; show g1 ≠ gt; omega) _
 have HZ5 : Hid (Has W5 g2 38 #[.int .i64 0, .int .i64 0, .int .i64 0, .int .i64 0, .int .i64 0, .int .i64 0, .int .i64 0, .int .i64 0, .int .i64 0, .int .i64 0]) := by unfold Hid; rw [e5]; exact ((HZ4.out.stays k4 HZ4.out.here).other _ (by have := LT.out; have := L0.out; show g2 ≠ gt; omega) _).other _ (by have := LT.out; have := L0.out; show g2 ≠ gt; omega) _
 have HA5 : Hid (Has W5 gA 43 #[.int .i64 a.id, .int .i64 a.x, .int .i64 a.y, .int .i64 a.vx, .int .i64 a.vy, .int .i64 a.an, .int .i64 a.sp, .int .i64 a.de, .int .i64 a.k, .int .i64 a.r, .slice a.ao a.n a.c]) := by unfold Hid; rw [e5]; exact ((HA4.out.stays k4 HA4.out.here).other _ (by have := LT.out; have := L0.out; show gA ≠ gt; omega) _).other _ (by have := LT.out; have := L0.out; show gA ≠ gt; omega) _
 have HB5 : Hid (Has W5 gB 43 #[.int .i64 b.id, .int .i64 b.x, .int .i64 b.y, .int .i64 b.vx, .int .i64 b.vy, .int .i64 b.an, .int .i64 b.sp, .int .i64 b.de, .int .i64 b.k, .int .i64 b.r, .slice b.ao b.n b.c]) := by unfold Hid; rw [e5]; exact ((HB4.out.stays k4 HB4.out.here).other _ (by have := LT.out; have := L0.out; show gB ≠ gt; omega) _).other _ (by have := LT.out; have := L0.out; show gB ≠ gt; omega) _
 have M5 : Hid (Made w.heap.size w W5) := by
  unfold Hid
  rw [e5]
  exact ((M4.out.then_ (k4.low M4.out.1.size)).put (p := ⟨gt, 4, none⟩) (by have := LT.out; have := L0.out; show w.heap.size ≤ gt; omega) _).put (p := ⟨gt, 5, none⟩) (by have := LT.out; have := L0.out; show w.heap.size ≤ gt; omega) _
 have y0 := t0.at_ 4
 have y1 := t0.at_ 5
 have yf0 := t0.free 4
 have yf1 := t0.free 5
 simp at y0 y1
 clear h4 hf z0 z1 z2 H1 H2 t0 k4 HT4 HC4 HJ4 HZ4 HA4 HB4 M4
 go_upto_region 4 with fail
 try rw [← e5]
 clear e5 y0 y1 yf0 yf1
 -- region 4
 refine reg_made_tail 7 (by kernel_rfl) (by kernel_rfl) ?_
 intro T hT fw hf
 have z0 := Class.reads hf (show W5.cell? ⟨gB, 5, none⟩ = some (.int .i64 b.an) from HB5.out.at_ 5)
 have z1 := Class.reads hf (show W5.cell? ⟨g1, 5, none⟩ = some (.int .i64 jtx) from HJ5.out.at_ 5)
 have z2 := Class.reads hf (show W5.cell? ⟨g1, 6, none⟩ = some (.int .i64 jty) from HJ5.out.at_ 6)
 have H1 := hid (fun t => hf.made (x := t) (HRotB.out (fw t)))
 have H2 := hid (fun t => hf.made (x := t) (vapply_is cb' sb jtx jty rbx rby (fw t) icb isb ijtx ijty E3.out E4.out))
 simp only [List.take_succ_cons, List.take_zero, List.drop_succ_cons, List.drop_zero]
 repeat (go_big_quiet_step ((first
  | (go_at_call 8; with_reducible exact H1.out _)
  | (go_at_call 7; with_reducible exact H2.out _))))
 refine wpQuiet_nil ?_
 intro v5 h5
 have k5 := hf.here h5
 obtain ⟨W6, e6⟩ : ∃ W, W = (v5.setCell ⟨gt, 6, none⟩ (.int .i64 rbx)).setCell ⟨gt, 7, none⟩ (.int .i64 rby) := ⟨_, rfl⟩
 have t0 := (HT5.out.stays k5 HT5.out.here)
 have HT6 : Hid (Has W6 gt 38 #[.int .i64 (i : Nat), .int .i64 (k : Nat), .int .i64 0, .int .i64 0, .int .i64 rax, .int .i64 ray, .int .i64 rbx, .int .i64 rby, .int .i64 0, .int .i64 0]) := by unfold Hid; rw [e6]; exact (t0.put 6 (.int .i64 rbx)).put 7 (.int .i64 rby)
 have HC6 : Hid (Has W6 g0 79 #[.slice (some ⟨gb, ob, none⟩) n cb, .slice (some ⟨gm, 0, none⟩) n cm]) := by unfold Hid; rw [e6]; exact ((HC5.out.stays k5 HC5.out.here).other _ (by have := LT.out; have := L0.out; show g0 ≠ gt; omega) _).other _ (by have := LT.out; have := L0.out; show g0 ≠ gt; omega) _
 have HJ6 : Hid (Has W6 g1 36 #[.int .i64 jid, .int .i64 ja, .int .i64 jb, .int .i64 jax, .int .i64 jay, .int .i64 jtx, .int .i64 jty, .int .i64 jln]) := by unfold Hid; rw [e6]; exact ((HJ5.out.stays k5 HJ5.out.here).other _ (by have := LT.out; have := L0.out; show g1 ≠ gt; omega) _).other _ (by have := LT.out; have := L0.out; show g1 ≠ gt; omega) _
 have HZ6 : Hid (Has W6 g2 38 #[.int .i64 0, .int .i64 0, .int .i64 0, .int .i64 0, .int .i64 0, .int .i64 0, .int .i64 0, .int .i64 0, .int .i64 0, .int .i64 0]) := by unfold Hid; rw [e6]; exact ((HZ5.out.stays k5 HZ5.out.here).other _ (by have := LT.out; have := L0.out; show g2 ≠ gt; omega) _).other _ (by have := LT.out; have := L0.out; show g2 ≠ gt; omega) _
 have HA6 : Hid (Has W6 gA 43 #[.int .i64 a.id, .int .i64 a.x, .int .i64 a.y, .int .i64 a.vx, .int .i64 a.vy, .int .i64 a.an, .int .i64 a.sp, .int .i64 a.de, .int .i64 a.k, .int .i64 a.r, .slice a.ao a.n a.c]) := by unfold Hid; rw [e6]; exact ((HA5.out.stays k5 HA5.out.here).other _ (by have := LT.out; have := L0.out; show gA ≠ gt; omega) _).other _ (by have := LT.out; have := L0.out; show gA ≠ gt; omega) _
 have HB6 : Hid (Has W6 gB 43 #[.int .i64 b.id, .int .i64 b.x, .int .i64 b.y, .int .i64 b.vx, .int .i64 b.vy, .int .i64 b.an, .int .i64 b.sp, .int .i64 b.de, .int .i64 b.k, .int .i64 b.r, .slice b.ao b.n b.c]) := by unfold Hid; rw [e6]; exact ((HB5.out.stays k5 HB5.out.here).other _ (by have := LT.out; have := L0.out; show gB ≠ gt; omega) _).other _ (by have := LT.out; have := L0.out; show gB ≠ gt; omega) _
 have M6 : Hid (Made w.heap.size w W6) := by
  unfold Hid
  rw [e6]
  exact ((M5.out.then_ (k5.low M5.out.1.size)).put (p := ⟨gt, 6, none⟩) (by have := LT.out; have := L0.out; show w.heap.size ≤ gt; omega) _).put (p := ⟨gt, 7, none⟩) (by have := LT.out; have := L0.out; show w.heap.size ≤ gt; omega) _
 have y0 := t0.at_ 6
 have y1 := t0.at_ 7
 have yf0 := t0.free 6
 have yf1 := t0.free 7
 simp at y0 y1
 clear h5 hf z0 z1 z2 H1 H2 t0 k5 HT5 HC5 HJ5 HZ5 HA5 HB5 M5
 go_upto_region 5 with fail
 try rw [← e6]
 clear e6 y0 y1 yf0 yf1
 -- region 5: the way
 refine reg_float1 11 90 12 26 #[.int .i64 0, .int .i64 0] _ (by kernel_rfl) (by kernel_rfl) (by kernel_rfl) rfl rfl alc_V ?_
 apply Exists.intro
 refine ⟨?h1, ?h2⟩
 case h1 =>
  intro T hT fw hf
  have z0 := Class.reads hf (show W6.cell? ⟨gB, 1, none⟩ = some (.int .i64 b.x) from HB6.out.at_ 1)
  have z1 := Class.reads hf (show W6.cell? ⟨gB, 2, none⟩ = some (.int .i64 b.y) from HB6.out.at_ 2)
  have z2 := Class.reads hf (show W6.cell? ⟨gA, 1, none⟩ = some (.int .i64 a.x) from HA6.out.at_ 1)
  have z3 := Class.reads hf (show W6.cell? ⟨gA, 2, none⟩ = some (.int .i64 a.y) from HA6.out.at_ 2)
  have z4 := Class.reads hf (show W6.cell? ⟨gt, 4, none⟩ = some (.int .i64 rax) from HT6.out.at_ 4)
  have z5 := Class.reads hf (show W6.cell? ⟨gt, 5, none⟩ = some (.int .i64 ray) from HT6.out.at_ 5)
  have z6 := Class.reads hf (show W6.cell? ⟨gt, 6, none⟩ = some (.int .i64 rbx) from HT6.out.at_ 6)
  have z7 := Class.reads hf (show W6.cell? ⟨gt, 7, none⟩ = some (.int .i64 rby) from HT6.out.at_ 7)
  have H1 := hid (fun t => hf.made (x := t) (vadd_is b.x b.y rbx rby px py (fw t) iBx iBy irbx irby E5.out E6.out))
  have H2 := hid (fun t => hf.made (x := t) (vadd_is a.x a.y rax ray qx qy (fw t) iAx iAy irax iray E7.out E8.out))
  have H3 := hid (fun t => hf.made (x := t) (vsub_is px py qx qy dx dy (fw t) ipx ipy iqx iqy E9.out E10.out))
  simp only [List.take_succ_cons, List.take_zero]
  repeat (go_big_quiet_step ((first
   | (go_at_call 10; with_reducible first | exact H1.out _ | exact H2.out _)
   | (go_at_call 9; with_reducible exact H3.out _))))
  exact wpQuiet_nil rfl
 intro gw v6 k6 hg hh
 simp only [List.drop_succ_cons, List.drop_zero]
 have LW : Hid (gA < gw ∧ gB < gw ∧ g2 < gw ∧ gt < gw ∧ w.heap.size ≤ gw) := ⟨Nat.lt_of_lt_of_le HA6.out.here hg, Nat.lt_of_lt_of_le HB6.out.here hg, Nat.lt_of_lt_of_le HZ6.out.here hg, Nat.lt_of_lt_of_le HT6.out.here hg, Nat.le_trans M6.out.1.size hg⟩
 obtain ⟨W7, e7⟩ : ∃ W, W = (v6.setCell ⟨gw, 0, none⟩ (.int .i64 dx)).setCell ⟨gw, 1, none⟩ (.int .i64 dy) := ⟨_, rfl⟩
 have y0 := hh.at_ 0
 have y1 := hh.at_ 1
 have yf0 := hh.free 0
 have yf1 := hh.free 1
 simp at y0 y1
 have HW7 : Hid (Has W7 gw 26 #[.int .i64 dx, .int .i64 dy]) := by unfold Hid; rw [e7]; exact (hh.put 0 (.int .i64 dx)).put 1 (.int .i64 dy)
 have HC7 : Hid (Has W7 g0 79 #[.slice (some ⟨gb, ob, none⟩) n cb, .slice (some ⟨gm, 0, none⟩) n cm]) := by unfold Hid; rw [e7]; exact ((HC6.out.stays k6 HC6.out.here).other _ (by have := LW.out; have := LT.out; have := L0.out; show g0 ≠ gw; omega) _).other _ (by have := LW.out; have := LT.out; have := L0.out; show g0 ≠ gw; omega) _
 have HJ7 : Hid (Has W7 g1 36 #[.int .i64 jid, .int .i64 ja, .int .i64 jb, .int .i64 jax, .int .i64 jay, .int .i64 jtx, .int .i64 jty, .int .i64 jln]) := by unfold Hid; rw [e7]; exact ((HJ6.out.stays k6 HJ6.out.here).other _ (by have := LW.out; have := LT.out; have := L0.out; show g1 ≠ gw; omega) _).other _ (by have := LW.out; have := LT.out; have := L0.out; show g1 ≠ gw; omega) _
 have HZ7 : Hid (Has W7 g2 38 #[.int .i64 0, .int .i64 0, .int .i64 0, .int .i64 0, .int .i64 0, .int .i64 0, .int .i64 0, .int .i64 0, .int .i64 0, .int .i64 0]) := by unfold Hid; rw [e7]; exact ((HZ6.out.stays k6 HZ6.out.here).other _ (by have := LW.out; have := LT.out; have := L0.out; show g2 ≠ gw; omega) _).other _ (by have := LW.out; have := LT.out; have := L0.out; show g2 ≠ gw; omega) _
 have HT7 : Hid (Has W7 gt 38 #[.int .i64 (i : Nat), .int .i64 (k : Nat), .int .i64 0, .int .i64 0, .int .i64 rax, .int .i64 ray, .int .i64 rbx, .int .i64 rby, .int .i64 0, .int .i64 0]) := by unfold Hid; rw [e7]; exact ((HT6.out.stays k6 HT6.out.here).other _ (by have := LW.out; have := LT.out; have := L0.out; show gt ≠ gw; omega) _).other _ (by have := LW.out; have := LT.out; have := L0.out; show gt ≠ gw; omega) _
 have M7 : Hid (Made w.heap.size w W7) := by
  unfold Hid
  rw [e7]
  exact ((M6.out.then_ (k6.low M6.out.1.size)).put (p := ⟨gw, 0, none⟩) LW.out.2.2.2.2 _).put (p := ⟨gw, 1, none⟩) LW.out.2.2.2.2 _
 obtain ⟨ux, uy, q, hu, huq⟩ : ∃ ux uy q, unitV dx dy = .tuple #[vecV ux uy, .bool q] ∧ ((q = true ∧ ux = nx ∧ uy = ny) ∨ (q = false ∧ nx = 4294967296 ∧ ny = 0)) := by
  by_cases h : ln = 0
  ·exact ⟨0, 0, false, unitV_no (by rw [E11.out]; exact h), .inr ⟨rfl, HNO.out.1 h⟩⟩
  ·exact ⟨nx, ny, true, unitV_of E11.out h (HNO.out.2 h).1 (HNO.out.2 h).2, .inl ⟨rfl, rfl, rfl⟩⟩
 have HU := hid hu; have HUQ := hid huq
 clear hu huq hg hh k6 HC6 HJ6 HZ6 HT6 HA6 HB6 M6
 go_upto_region 6 with fail
 try rw [← e7]
 clear e7 y0 y1 yf0 yf1
 have c0 : W7.cell? ⟨gw, 0, none⟩ = some (.int .i64 dx) := HW7.out.at_ 0
 have c1 : W7.cell? ⟨gw, 1, none⟩ = some (.int .i64 dy) := HW7.out.at_ 1
 go_wp2_with fail
 refine (vunit_is dx dy _ _ idx idy HU.out).mono ?_
 rintro e v7 ⟨rfl, k7⟩
 obtain ⟨W8, e8⟩ : ∃ W, W = v7.alloc (.cells #[.int .i64 ux, .int .i64 uy] 26) := ⟨_, rfl⟩
 obtain ⟨gn, egn⟩ : ∃ g, v7.heap.size = g := ⟨_, rfl⟩
 have k8 : Made W7.heap.size W7 W8 := by rw [e8]; exact k7.then_ (((Made.rfl_ _ _).cells (Nat.le_refl _) _ _).low k7.1.size)
 have HN8 : Hid (Has W8 gn 26 #[.int .i64 ux, .int .i64 uy]) := by unfold Hid; rw [e8, ← egn]; exact has_new _ _ _
 have LN : Hid (gw < gn) := by unfold Hid; rw [← egn]; exact Nat.lt_of_lt_of_le HW7.out.here k7.1.size
 have HC8 := hid (HC7.out.stays k8 HC7.out.here)
 have HJ8 := hid (HJ7.out.stays k8 HJ7.out.here)
 have HZ8 := hid (HZ7.out.stays k8 HZ7.out.here)
 have HT8 := hid (HT7.out.stays k8 HT7.out.here)
 have HW8 := hid (HW7.out.stays k8 HW7.out.here)
 have M8 : Hid (Made w.heap.size w W8) := M7.out.then_ (k8.low M7.out.1.size)
 clear k7 k8 c0 c1 HC7 HJ7 HZ7 HT7 HW7 M7
 go_upto_region 7 with fail
 try rw [egn]
 rw [← e8]
 clear e8 egn
 go_upto_if 61 with fail
 go_cut [14] (fun s14 wx => s14 = .bool q ∧ Hid (Has wx gn 26 #[.int .i64 nx, .int .i64 ny]) ∧ Hid (∀ g t cs, g < gn → Has W8 g t cs → Has wx g t cs) ∧ Hid (Made w.heap.size w wx))
 case first =>
  rcases HUQ.out with ⟨rfl, rfl, rfl⟩ | ⟨rfl, rfl, rfl⟩
  ·go_wp2_with fail
   go_meet
   exact ⟨rfl, HN8.out, fun g t cs _ h => h, M8.out⟩
  ·have n0 : W8.cell? ⟨gn, 0, none⟩ = some (.int .i64 ux) := HN8.out.at_ 0
   have n1 : W8.cell? ⟨gn, 1, none⟩ = some (.int .i64 uy) := HN8.out.at_ 1
   have nf0 := HN8.out.free 0
   have nf1 := HN8.out.free 1
   go_wp2_with fail
   go_meet
   refine ⟨rfl, (HN8.out.put 0 (.int .i64 4294967296)).put 1 (.int .i64 0), fun g t cs hg h => (h.other _ (by show g ≠ gn; omega) _).other _ (by show g ≠ gn; omega) _, (M8.out.put (p := ⟨gn, 0, none⟩) ?_ _).put (p := ⟨gn, 1, none⟩) ?_ _⟩
   all_goals have := LN.out; have := LW.out; show w.heap.size ≤ gn; omega
 obtain ⟨rfl, HN9, HK9, M9⟩ := hcut
 have HC9 := hid (HK9.out _ _ _ (by have := LN.out; have := LW.out; have := LT.out; have := L0.out; omega) HC8.out)
 have HJ9 := hid (HK9.out _ _ _ (by have := LN.out; have := LW.out; have := LT.out; have := L0.out; omega) HJ8.out)
 have HZ9 := hid (HK9.out _ _ _ (by have := LN.out; have := LW.out; have := LT.out; have := L0.out; omega) HZ8.out)
 have HT9 := hid (HK9.out _ _ _ (by have := LN.out; have := LW.out; have := LT.out; have := L0.out; omega) HT8.out)
 have HW9 := hid (HK9.out _ _ _ (by have := LN.out; have := LW.out; have := LT.out; have := L0.out; omega) HW8.out)
 clear HC8 HJ8 HZ8 HT8 HW8 HN8 M8 HK9
 -- region 9
 have n0 : wc.cell? ⟨gn, 0, none⟩ = some (.int .i64 nx) := HN9.out.at_ 0
 have n1 : wc.cell? ⟨gn, 1, none⟩ = some (.int .i64 ny) := HN9.out.at_ 1
 have t2 : wc.cell? ⟨gt, 2, none⟩ = some (.int .i64 0) := HT9.out.at_ 2
 have t3 : wc.cell? ⟨gt, 3, none⟩ = some (.int .i64 0) := HT9.out.at_ 3
 have tf2 := HT9.out.free 2
 have tf3 := HT9.out.free 3
 go_upto_region 10 with fail
 obtain ⟨W10, e10⟩ : ∃ W, W = (wc.setCell ⟨gt, 2, none⟩ (.int .i64 nx)).setCell ⟨gt, 3, none⟩ (.int .i64 ny) := ⟨_, rfl⟩
 rw [← e10]
 have HT10 : Hid (Has W10 gt 38 #[.int .i64 (i : Nat), .int .i64 (k : Nat), .int .i64 nx, .int .i64 ny, .int .i64 rax, .int .i64 ray, .int .i64 rbx, .int .i64 rby, .int .i64 0, .int .i64 0]) := by unfold Hid; rw [e10]; exact (HT9.out.put 2 (.int .i64 nx)).put 3 (.int .i64 ny)
 have HC10 : Hid (Has W10 g0 79 #[.slice (some ⟨gb, ob, none⟩) n cb, .slice (some ⟨gm, 0, none⟩) n cm]) := by unfold Hid; rw [e10]; exact (HC9.out.other _ (by have := LN.out; have := LW.out; have := LT.out; have := L0.out; show g0 ≠ gt; omega) _).other _ (by have := LN.out; have := LW.out; have := LT.out; have := L0.out; show g0 ≠ gt; omega) _
 have HJ10 : Hid (Has W10 g1 36 #[.int .i64 jid, .int .i64 ja, .int .i64 jb, .int .i64 jax, .int .i64 jay, .int .i64 jtx, .int .i64 jty, .int .i64 jln]) := by unfold Hid; rw [e10]; exact (HJ9.out.other _ (by have := LN.out; have := LW.out; have := LT.out; have := L0.out; show g1 ≠ gt; omega) _).other _ (by have := LN.out; have := LW.out; have := LT.out; have := L0.out; show g1 ≠ gt; omega) _
 have HZ10 : Hid (Has W10 g2 38 #[.int .i64 0, .int .i64 0, .int .i64 0, .int .i64 0, .int .i64 0, .int .i64 0, .int .i64 0, .int .i64 0, .int .i64 0, .int .i64 0]) := by unfold Hid; rw [e10]; exact (HZ9.out.other _ (by have := LN.out; have := LW.out; have := LT.out; have := L0.out; show g2 ≠ gt; omega) _).other _ (by have := LN.out; have := LW.out; have := LT.out; have := L0.out; show g2 ≠ gt; omega) _
 have HW10 : Hid (Has W10 gw 26 #[.int .i64 dx, .int .i64 dy]) := by unfold Hid; rw [e10]; exact (HW9.out.other _ (by have := LN.out; have := LW.out; have := LT.out; have := L0.out; show gw ≠ gt; omega) _).other _ (by have := LN.out; have := LW.out; have := LT.out; have := L0.out; show gw ≠ gt; omega) _
 have HN10 : Hid (Has W10 gn 26 #[.int .i64 nx, .int .i64 ny]) := by unfold Hid; rw [e10]; exact (HN9.out.other _ (by have := LN.out; have := LW.out; have := LT.out; have := L0.out; show gn ≠ gt; omega) _).other _ (by have := LN.out; have := LW.out; have := LT.out; have := L0.out; show gn ≠ gt; omega) _
 have M10 : Hid (Made w.heap.size w W10) := by
  unfold Hid
  rw [e10]
  exact (M9.out.put (p := ⟨gt, 2, none⟩) (by have := LT.out; have := L0.out; show w.heap.size ≤ gt; omega) _).put (p := ⟨gt, 3, none⟩) (by have := LT.out; have := L0.out; show w.heap.size ≤ gt; omega) _
 clear n0 n1 t2 t3 tf2 tf3 e10 HT9 HC9 HJ9 HZ9 HW9 HN9 M9
 have c0 : W10.cell? ⟨g0, 0, none⟩ = some (.slice (some ⟨gb, ob, none⟩) n cb) := HC10.out.at_ 0
 have c1 : W10.cell? ⟨g0, 1, none⟩ = some (.slice (some ⟨gm, 0, none⟩) n cm) := HC10.out.at_ 1
 have t4 : W10.cell? ⟨gt, 4, none⟩ = some (.int .i64 rax) := HT10.out.at_ 4
 have t5 : W10.cell? ⟨gt, 5, none⟩ = some (.int .i64 ray) := HT10.out.at_ 5
 have t6 : W10.cell? ⟨gt, 6, none⟩ = some (.int .i64 rbx) := HT10.out.at_ 6
 have t7 : W10.cell? ⟨gt, 7, none⟩ = some (.int .i64 rby) := HT10.out.at_ 7
 go_wp2_with fail
 refine (HLnk.out _ M10.out).mono ?_
 rintro e v10 ⟨rfl, k10⟩
 obtain ⟨W11, e11⟩ : ∃ W, W = v10.alloc (.cells #[.pointer (some ⟨gb, oa, none⟩), .pointer (some ⟨gb, ok, none⟩), .int .i64 (mA a), .int .i64 (mI a), .int .i64 (moveB a), .int .i64 (spinB a), .int .i64 (mA b), .int .i64 (mI b), .int .i64 (moveB b), .int .i64 (spinB b), .int .i64 rax, .int .i64 ray, .int .i64 rbx, .int .i64 rby] 110) := ⟨_, rfl⟩
 obtain ⟨gl, egl⟩ : ∃ g, v10.heap.size = g := ⟨_, rfl⟩
 have k11 : Made W10.heap.size W10 W11 := by rw [e11]; exact k10.then_ (((Made.rfl_ _ _).cells (Nat.le_refl _) _ _).low k10.1.size)
 have HL11 : Hid (Has W11 gl 110 #[.pointer (some ⟨gb, oa, none⟩), .pointer (some ⟨gb, ok, none⟩), .int .i64 (mA a), .int .i64 (mI a), .int .i64 (moveB a), .int .i64 (spinB a), .int .i64 (mA b), .int .i64 (mI b), .int .i64 (moveB b), .int .i64 (spinB b), .int .i64 rax, .int .i64 ray, .int .i64 rbx, .int .i64 rby]) := by unfold Hid; rw [e11, ← egl]; exact has_new _ _ _
 have HC11 := hid (HC10.out.stays k11 HC10.out.here)
 have HJ11 := hid (HJ10.out.stays k11 HJ10.out.here)
 have HZ11 := hid (HZ10.out.stays k11 HZ10.out.here)
 have HT11 := hid (HT10.out.stays k11 HT10.out.here)
 have HW11 := hid (HW10.out.stays k11 HW10.out.here)
 have HN11 := hid (HN10.out.stays k11 HN10.out.here)
 have M11 : Hid (Made w.heap.size w W11) := M10.out.then_ (k11.low M10.out.1.size)
 clear k10 k11 c0 c1 t4 t5 t6 t7 HC10 HJ10 HZ10 HT10 HW10 HN10 M10
 go_upto_region 11 with fail
 try rw [egl]
 rw [← e11]
 clear e11 egl
 have hsL : (Tryz.prog.info? 110).map (·.size) = some 14 := by kernel_rfl
 have n0 : W11.cell? ⟨gn, 0, none⟩ = some (.int .i64 nx) := HN11.out.at_ 0
 have n1 : W11.cell? ⟨gn, 1, none⟩ = some (.int .i64 ny) := HN11.out.at_ 1
 go_wp2_with (refine wpList_load_row rfl 110 (.tmp 15) rfl gl rfl 110 _ (0, 0) _ HL11.out Tryz.underlying110 rfl hsL ?_)
 refine (effective_c a b (.pointer (some ⟨gb, oa, none⟩)) (.pointer (some ⟨gb, ok, none⟩)) rax ray rbx rby nx ny gg _ irax iray irbx irby inx iny E13.out).mono ?_
 rintro e v11 ⟨rfl, k11⟩
 have HJ12 := hid (HJ11.out.stays k11 HJ11.out.here)
 have HZ12 := hid (HZ11.out.stays k11 HZ11.out.here)
 have HT12 := hid (HT11.out.stays k11 HT11.out.here)
 have HW12 := hid (HW11.out.stays k11 HW11.out.here)
 have M12 : Hid (Made w.heap.size w v11) := M11.out.then_ (k11.low M11.out.1.size)
 have t8 : v11.cell? ⟨gt, 8, none⟩ = some (.int .i64 0) := HT12.out.at_ 8
 have tf8 := HT12.out.free 8
 clear k11 n0 n1 HC11 HJ11 HZ11 HT11 HW11 HN11 HL11 M11
 go_upto_region 12 with fail
 obtain ⟨W13, e13⟩ : ∃ W, W = v11.setCell ⟨gt, 8, none⟩ (.int .i64 gg) := ⟨_, rfl⟩
 rw [← e13]
 have HT13 : Hid (Has W13 gt 38 #[.int .i64 (i : Nat), .int .i64 (k : Nat), .int .i64 nx, .int .i64 ny, .int .i64 rax, .int .i64 ray, .int .i64 rbx, .int .i64 rby, .int .i64 gg, .int .i64 0]) := by unfold Hid; rw [e13]; exact HT12.out.put 8 (.int .i64 gg)
 have HJ13 : Hid (Has W13 g1 36 #[.int .i64 jid, .int .i64 ja, .int .i64 jb, .int .i64 jax, .int .i64 jay, .int .i64 jtx, .int .i64 jty, .int .i64 jln]) := by unfold Hid; rw [e13]; exact HJ12.out.other _ (by have := LN.out; have := LW.out; have := LT.out; have := L0.out; show g1 ≠ gt; omega) _
 have HZ13 : Hid (Has W13 g2 38 #[.int .i64 0, .int .i64 0, .int .i64 0, .int .i64 0, .int .i64 0, .int .i64 0, .int .i64 0, .int .i64 0, .int .i64 0, .int .i64 0]) := by unfold Hid; rw [e13]; exact HZ12.out.other _ (by have := LN.out; have := LW.out; have := LT.out; have := L0.out; show g2 ≠ gt; omega) _
 have HW13 : Hid (Has W13 gw 26 #[.int .i64 dx, .int .i64 dy]) := by unfold Hid; rw [e13]; exact HW12.out.other _ (by have := LN.out; have := LW.out; have := LT.out; have := L0.out; show gw ≠ gt; omega) _
 have M13 : Hid (Made w.heap.size w W13) := by unfold Hid; rw [e13]; exact M12.out.put (p := ⟨gt, 8, none⟩) (by have := LT.out; have := L0.out; show w.heap.size ≤ gt; omega) _
 clear t8 tf8 e13 HJ12 HZ12 HT12 HW12 M12
 refine reg_made_tail 9 (by kernel_rfl) (by kernel_rfl) ?_
 intro T hT fw hf
 have z0 := Class.reads hf (show W13.cell? ⟨gw, 0, none⟩ = some (.int .i64 dx) from HW13.out.at_ 0)
 have z1 := Class.reads hf (show W13.cell? ⟨gw, 1, none⟩ = some (.int .i64 dy) from HW13.out.at_ 1)
 have z2 := Class.reads hf (show W13.cell? ⟨g1, 7, none⟩ = some (.int .i64 jln) from HJ13.out.at_ 7)
 have H1 := hid (fun t => hf.made (x := t) (rate_c rr E14 (fw t)))
 have H2 := hid (fun t => hf.made (x := t) (vlen_is dx dy ln (fw t) idx idy E11.out))
 have H3 := hid (fun t => hf.same (x := t) (sub_is ln jln lo (fw t) iln ijln E15.out))
 have H4 := hid (fun t => hf.same (x := t) (mul_is rr lo ml (fw t) irr ilo E16.out))
 have H5 := hid (fun t => hf.same (x := t) (bring_is ml (-17179869184) 17179869184 oo (fw t) iml (by unfold I64; omega) (by unfold I64; omega) E17.out))
 simp only [List.take_succ_cons, List.take_zero, List.drop_succ_cons, List.drop_zero]
 repeat (go_big_quiet_step ((first
  | (go_at_call 63; with_reducible exact H1.out _)
  | (go_at_call 15; with_reducible exact H2.out _)
  | (go_at_call 14; with_reducible exact H3.out _)
  | (go_at_call 12; with_reducible exact H4.out _)
  | (go_at_call 62; with_reducible exact H5.out _))))
 refine wpQuiet_nil ?_
 intro v13 h13
 have k13 := hf.here h13
 have HT14 := hid (HT13.out.stays k13 HT13.out.here)
 have HZ14 := hid (HZ13.out.stays k13 HZ13.out.here)
 have M14 : Hid (Made w.heap.size w v13) := M13.out.then_ (k13.low M13.out.1.size)
 have t9 : v13.cell? ⟨gt, 9, none⟩ = some (.int .i64 0) := HT14.out.at_ 9
 have tf9 := HT14.out.free 9
 clear h13 hf k13 z0 z1 z2 H1 H2 H3 H4 H5 HT13 HZ13 M13 HJ13 HW13
 go_upto_region 13 with fail
 obtain ⟨W15, e15⟩ : ∃ W, W = v13.setCell ⟨gt, 9, none⟩ (.int .i64 oo) := ⟨_, rfl⟩
 rw [← e15]
 have HT15 : Hid (Has W15 gt 38 #[.int .i64 (i : Nat), .int .i64 (k : Nat), .int .i64 nx, .int .i64 ny, .int .i64 rax, .int .i64 ray, .int .i64 rbx, .int .i64 rby, .int .i64 gg, .int .i64 oo]) := by unfold Hid; rw [e15]; exact HT14.out.put 9 (.int .i64 oo)
 have HZ15 : Hid (Has W15 g2 38 #[.int .i64 0, .int .i64 0, .int .i64 0, .int .i64 0, .int .i64 0, .int .i64 0, .int .i64 0, .int .i64 0, .int .i64 0, .int .i64 0]) := by unfold Hid; rw [e15]; exact HZ14.out.other _ (by have := LT.out; show g2 ≠ gt; omega) _
 have M15 : Hid (Made w.heap.size w W15) := by unfold Hid; rw [e15]; exact M14.out.put (p := ⟨gt, 9, none⟩) (by have := LT.out; have := L0.out; show w.heap.size ≤ gt; omega) _
 clear t9 tf9 e15 HT14 HZ14 M14
 have hsT : (Tryz.prog.info? 38).map (·.size) = some 10 := by kernel_rfl
 have z0 : W15.cell? ⟨g2, 0, none⟩ = some (.int .i64 0) := HZ15.out.at_ 0
 have z1 : W15.cell? ⟨g2, 1, none⟩ = some (.int .i64 0) := HZ15.out.at_ 1
 have z2 : W15.cell? ⟨g2, 2, none⟩ = some (.int .i64 0) := HZ15.out.at_ 2
 have z3 : W15.cell? ⟨g2, 3, none⟩ = some (.int .i64 0) := HZ15.out.at_ 3
 have z4 : W15.cell? ⟨g2, 4, none⟩ = some (.int .i64 0) := HZ15.out.at_ 4
 have z5 : W15.cell? ⟨g2, 5, none⟩ = some (.int .i64 0) := HZ15.out.at_ 5
 have z6 : W15.cell? ⟨g2, 6, none⟩ = some (.int .i64 0) := HZ15.out.at_ 6
 have z7 : W15.cell? ⟨g2, 7, none⟩ = some (.int .i64 0) := HZ15.out.at_ 7
 have z8 : W15.cell? ⟨g2, 8, none⟩ = some (.int .i64 0) := HZ15.out.at_ 8
 have z9 : W15.cell? ⟨g2, 9, none⟩ = some (.int .i64 0) := HZ15.out.at_ 9
 have zf := HZ15.out.free
 go_wp2_with (refine wpList_load_row rfl 38 (.tmp 11) rfl gt rfl 38 _ (0, 0) _ HT15.out Tryz.underlying38 rfl hsT ?_)
 obtain ⟨V, eV⟩ : ∃ V, V = ((((((((((W15.setCell ⟨g2, 0, none⟩ (.int .i64 (i : Nat))).setCell ⟨g2, 1, none⟩ (.int .i64 (k : Nat))).setCell ⟨g2, 2, none⟩ (.int .i64 nx)).setCell ⟨g2, 3, none⟩ (.int .i64 ny)).setCell ⟨g2, 4, none⟩ (.int .i64 rax)).setCell ⟨g2, 5, none⟩ (.int .i64 ray)).setCell ⟨g2, 6, none⟩ (.int .i64 rbx)).setCell ⟨g2, 7, none⟩ (.int .i64 rby)).setCell ⟨g2, 8, none⟩ (.int .i64 gg)).setCell ⟨g2, 9, none⟩ (.int .i64 oo)) := ⟨_, rfl⟩
 rw [← eV]
 have hV : Has V g2 38 #[.int .i64 (i : Nat), .int .i64 (k : Nat), .int .i64 nx, .int .i64 ny, .int .i64 rax, .int .i64 ray, .int .i64 rbx, .int .i64 rby, .int .i64 gg, .int .i64 oo] := by rw [eV]; exact put10 HZ15.out
 have MV : Made w.heap.size w V := by rw [eV]; exact made10 M15.out L0.out.1
 have r0 : V.cell? ⟨g2, 0, none⟩ = some (.int .i64 (i : Nat)) := hV.at_ 0
 have r1 : V.cell? ⟨g2, 1, none⟩ = some (.int .i64 (k : Nat)) := hV.at_ 1
 have r2 : V.cell? ⟨g2, 2, none⟩ = some (.int .i64 nx) := hV.at_ 2
 have r3 : V.cell? ⟨g2, 3, none⟩ = some (.int .i64 ny) := hV.at_ 3
 have r4 : V.cell? ⟨g2, 4, none⟩ = some (.int .i64 rax) := hV.at_ 4
 have r5 : V.cell? ⟨g2, 5, none⟩ = some (.int .i64 ray) := hV.at_ 5
 have r6 : V.cell? ⟨g2, 6, none⟩ = some (.int .i64 rbx) := hV.at_ 6
 have r7 : V.cell? ⟨g2, 7, none⟩ = some (.int .i64 rby) := hV.at_ 7
 have r8 : V.cell? ⟨g2, 8, none⟩ = some (.int .i64 gg) := hV.at_ 8
 have r9 : V.cell? ⟨g2, 9, none⟩ = some (.int .i64 oo) := hV.at_ 9
 refine bodyPost_ret (v := .agg #[.int .i64 (i : Nat), .int .i64 (k : Nat), .int .i64 nx, .int .i64 ny, .int .i64 rax, .int .i64 ray, .int .i64 rbx, .int .i64 rby, .int .i64 gg, .int .i64 oo]) (by simp [results, Tryz.results25, go_sem, r0, r1, r2, r3, r4, r5, r6, r7, r8, r9]) rfl ?_
 exact ⟨by rw [HF.out]; rfl, MV⟩
end Go.Proofs.YtjhcejmfiekjgaaGreat.Fx