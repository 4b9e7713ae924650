/- Boxes of turned corners, plain: a box is that of the offsets, moved; a quarter, a half, three quarters on. No Go in sight. -/
import Derived.Test.YtmfkcdinfahjlaaBoxP
namespace Go.Proofs.Ytmfkcdinfahjlaa.Fx
set_option linter.unusedVariables false

theorem quarters (k : Int) (h0 : 0 ≤ k) (h1 : k < 1024) : (cs ((k + 256) % 1024) = -sn k ∧ sn ((k + 256) % 1024) = cs k) ∧ (cs ((k + 512) % 1024) = -cs k ∧ sn ((k + 512) % 1024) = -sn k) ∧ (cs ((k + 768) % 1024) = sn k ∧ sn ((k + 768) % 1024) = -cs k) := by
  have a := (turn_facts k h0 h1).1
  have b := (turn_facts ((k + 256) % 1024) (by omega) (by omega)).1
  refine ⟨⟨by rw [cs_quarter, a], rfl⟩, ⟨by rw [cs_half, b]; rfl, a⟩, ?_, ?_⟩
  · show sn (((k + 768) % 1024 + 256) % 1024) = sn k
    congr 1
    omega
  · have e : ((k + 256) % 1024 + 512) % 1024 = (k + 768) % 1024 := by omega
    rw [e] at b
    rw [b]
    rfl
theorem cn_cs (k : Int) : Cn (cs k) := cs_bd k
theorem cn_sn (k : Int) : Cn (sn k) := sn_bd k
theorem step_at {A : Int} (h0 : 0 ≤ A) (h1 : A < 4294967296) : stepF A = A / 4194304 ∧ 0 ≤ A / 4194304 ∧ A / 4194304 < 1024 := by
  refine ⟨?_, by omega, by omega⟩
  unfold stepF wrapF cl
  rw [if_neg (by omega)]
  omega
/-- the rectangle of turned and moved corners, out of that of the turned ones -/
theorem place_ext {f : Cs} {n : Nat} {c s X Y a b p q : Int} (hc : Cn c) (hs : Cn s) (h : Tiny f n) (hX : Pl X) (hY : Pl Y) (ex : Ext (offX f c s) n a b) (ey : Ext (offY f c s) n p q) (F : Cs)
    (hF : ∀ i, F i = (addF (subF (mulF c (f i).1) (mulF s (f i).2)) X, addF (addF (mulF s (f i).1) (mulF c (f i).2)) Y)) :
    Ext (fun i => (F i).1) n (a + X) (b + X) ∧ Ext (fun i => (F i).2) n (p + Y) (q + Y) := by
  have e1 : ∀ i, i < n → (F i).1 = offX f c s i + X := fun i hi => by
    rw [hF i]; simp only []
    rw [(off_sub hc hs h hi).1]
    exact off_add hX (off_bd hc hs h hi).1
  have e2 : ∀ i, i < n → (F i).2 = offY f c s i + Y := fun i hi => by
    rw [hF i]; simp only []
    rw [(off_sub hc hs h hi).2]
    exact off_add hY (off_bd hc hs h hi).2
  exact ⟨(ex.moved X).congr fun i hi => (e1 i hi).symm, (ey.moved Y).congr fun i hi => (e2 i hi).symm⟩
theorem off_ext {f : Cs} {n : Nat} {c s a b p q : Int} (hc : Cn c) (hs : Cn s) (h : Tiny f n) (ex : Ext (offX f c s) n a b) (ey : Ext (offY f c s) n p q) :
    ((-34896609280 ≤ a ∧ a ≤ 34896609280) ∧ (-34896609280 ≤ b ∧ b ≤ 34896609280)) ∧ ((-34896609280 ≤ p ∧ p ≤ 34896609280) ∧ (-34896609280 ≤ q ∧ q ≤ 34896609280)) := by
  obtain ⟨_, ⟨i, hi, ei⟩, ⟨j, hj, ej⟩⟩ := ex
  obtain ⟨_, ⟨k, hk, ek⟩, ⟨l, hl, el⟩⟩ := ey
  rw [← ei, ← ej, ← ek, ← el]
  exact ⟨⟨(off_bd hc hs h hi).1, (off_bd hc hs h hj).1⟩, ⟨(off_bd hc hs h hk).2, (off_bd hc hs h hl).2⟩⟩
theorem tiny_rg {f : Cs} {n i : Nat} (h : Tiny f n) (hi : i < n) : Rg (f i).1 ∧ Rg (f i).2 := by
  have := h i hi
  unfold Rg
  omega
theorem ext_quarter {f : Cs} {n : Nat} {c s a b p q : Int} (hs : Cn s) (h : Tiny f n) (ex : Ext (offX f c s) n a b) (ey : Ext (offY f c s) n p q) : Ext (offX f (-s) c) n (-q) (-p) ∧ Ext (offY f (-s) c) n a b :=
  ⟨ey.neg.congr fun i hi => (quarter_x f i (tiny_rg h hi).1 hs).symm, ex.congr fun i hi => (quarter_y f i (tiny_rg h hi).2 hs).symm⟩
theorem ext_half {f : Cs} {n : Nat} {c s a b p q : Int} (hc : Cn c) (hs : Cn s) (h : Tiny f n) (ex : Ext (offX f c s) n a b) (ey : Ext (offY f c s) n p q) : Ext (offX f (-c) (-s)) n (-b) (-a) ∧ Ext (offY f (-c) (-s)) n (-q) (-p) :=
  ⟨ex.neg.congr fun i hi => (half_x f i (tiny_rg h hi).1 (tiny_rg h hi).2 hc hs).symm, ey.neg.congr fun i hi => (half_y f i (tiny_rg h hi).1 (tiny_rg h hi).2 hc hs).symm⟩
theorem ext_three {f : Cs} {n : Nat} {c s a b p q : Int} (hc : Cn c) (h : Tiny f n) (ex : Ext (offX f c s) n a b) (ey : Ext (offY f c s) n p q) : Ext (offX f s (-c)) n p q ∧ Ext (offY f s (-c)) n (-b) (-a) :=
  ⟨ey.congr fun i hi => (back_x f i (tiny_rg h hi).2 hc).symm, ex.neg.congr fun i hi => (back_y f i (tiny_rg h hi).1 hc).symm⟩
theorem len_tiny {a b : Int} (ha : -17448304640 ≤ a ∧ a ≤ 17448304640) (hb : -17448304640 ≤ b ∧ b ≤ 17448304640) : lenF a b ≤ 34896609280 := by
  obtain ⟨n0, n1, n2⟩ := len_spec (a := a) (b := b) (by unfold Sm; omega) (by unfold Sm; omega)
  have qa := prod_in ha.1 ha.2 ha.1 ha.2
  have qb := prod_in hb.1 hb.2 hb.1 hb.2
  refine Int.not_lt.1 fun h => ?_
  have := sq_le (show (0 : Int) ≤ 34896609281 by omega) (show 34896609281 ≤ lenF a b by omega)
  omega
theorem top_tiny {f : Cs} {n : Nat} {r : Int} (h : Tiny f n) (t : Top f n r) : 0 ≤ r ∧ r ≤ 34896609280 := by
  obtain ⟨r0, _, e | ⟨i, hi, e⟩⟩ := t
  · omega
  · have := len_tiny (h i hi).1 (h i hi).2
    omega
theorem off_near {f : Cs} {n : Nat} {c s : Int} (hc : Cn c) (hs : Cn s) (h : Tiny f n) {i : Nat} (hi : i < n) :
    (-8589934592 ≤ 4294967296 * offX f c s i - c * (f i).1 - -s * (f i).2 ∧ 4294967296 * offX f c s i - c * (f i).1 - -s * (f i).2 ≤ 8589934592) ∧
    (-8589934592 ≤ 4294967296 * -offX f c s i - -c * (f i).1 - s * (f i).2 ∧ 4294967296 * -offX f c s i - -c * (f i).1 - s * (f i).2 ≤ 8589934592) ∧
    (-8589934592 ≤ 4294967296 * offY f c s i - s * (f i).1 - c * (f i).2 ∧ 4294967296 * offY f c s i - s * (f i).1 - c * (f i).2 ≤ 8589934592) ∧
    (-8589934592 ≤ 4294967296 * -offY f c s i - -s * (f i).1 - -c * (f i).2 ∧ 4294967296 * -offY f c s i - -s * (f i).1 - -c * (f i).2 ≤ 8589934592) := by
  obtain ⟨h1, h2⟩ := h i hi
  have t1 := mul_tr (cn_sm hc) (b := (f i).1) (by unfold Sm; omega)
  have t2 := mul_tr (cn_sm hs) (b := (f i).2) (by unfold Sm; omega)
  have t3 := mul_tr (cn_sm hs) (b := (f i).1) (by unfold Sm; omega)
  have t4 := mul_tr (cn_sm hc) (b := (f i).2) (by unfold Sm; omega)
  unfold offX offY
  rw [t1, t2, t3, t4, Int.neg_mul, Int.neg_mul, Int.neg_mul, Int.neg_mul]
  have key : ∀ p : Int, -4294967296 < 4294967296 * trF p - p ∧ 4294967296 * trF p - p < 4294967296 := fun p => by unfold trF; split <;> omega
  have k1 := key (c * (f i).1)
  have k2 := key (s * (f i).2)
  have k3 := key (s * (f i).1)
  have k4 := key (c * (f i).2)
  omega
theorem reach_off {f : Cs} {n : Nat} {r k : Int} (h : Tiny f n) (t : Top f n r) (k0 : 0 ≤ k) (k1 : k < 1024) {i : Nat} (hi : i < n) :
    (-(r + 1048576) ≤ offX f (cs k) (sn k) i ∧ offX f (cs k) (sn k) i ≤ r + 1048576) ∧ (-(r + 1048576) ≤ offY f (cs k) (sn k) i ∧ offY f (cs k) (sn k) i ≤ r + 1048576) := by
  have hn := norm_near k k0 k1
  have hc := cn_cs k
  have hs := cn_sn k
  have hc' : Cn (-cs k) := by unfold Cn at *; omega
  have hs' : Cn (-sn k) := by unfold Cn at *; omega
  have ec : -cs k * -cs k = cs k * cs k := by rw [Int.neg_mul_neg]
  have es : -sn k * -sn k = sn k * sn k := by rw [Int.neg_mul_neg]
  obtain ⟨e1, e2, e3, e4⟩ := off_near hc hs h hi
  obtain ⟨h1, h2⟩ := h i hi
  have a := comp_reach hc hs' (by rw [es]; exact hn) h1 h2 e1
  have b := comp_reach hc' hs (by rw [ec]; exact hn) h1 h2 e2
  have d := comp_reach hs hc (by rw [Int.add_comm]; exact hn) h1 h2 e3
  have e := comp_reach hs' hc' (by rw [ec, es, Int.add_comm]; exact hn) h1 h2 e4
  have l := t.2.1 i hi
  omega
/-- an angle, so many quarters on -/
theorem angle_on {A q A' : Int} (h0 : 0 ≤ A) (h1 : A < 4294967296) (q0 : 0 ≤ q) (e : (A + q * 1073741824) % 4294967296 = A') :
    (0 ≤ A' ∧ A' < 4294967296) ∧ (q % 4 = 0 → A' = A) ∧ (q % 4 = 1 → A' / 4194304 = (A / 4194304 + 256) % 1024) ∧ (q % 4 = 2 → A' / 4194304 = (A / 4194304 + 512) % 1024) ∧ (q % 4 = 3 → A' / 4194304 = (A / 4194304 + 768) % 1024) := by
  omega
theorem turned_ext {f : Cs} {n : Nat} {A A' q a b u v : Int} (h : Tiny f n) (h0 : 0 ≤ A) (h1 : A < 4294967296) (q0 : 0 ≤ q) (e : (A + q * 1073741824) % 4294967296 = A')
    (ex : Ext (offX f (cs (stepF A)) (sn (stepF A))) n a b) (ey : Ext (offY f (cs (stepF A)) (sn (stepF A))) n u v) :
    (q % 4 = 0 → A' = A) ∧
    (q % 4 = 1 → Ext (offX f (cs (stepF A')) (sn (stepF A'))) n (-v) (-u) ∧ Ext (offY f (cs (stepF A')) (sn (stepF A'))) n a b) ∧
    (q % 4 = 2 → Ext (offX f (cs (stepF A')) (sn (stepF A'))) n (-b) (-a) ∧ Ext (offY f (cs (stepF A')) (sn (stepF A'))) n (-v) (-u)) ∧
    (q % 4 = 3 → Ext (offX f (cs (stepF A')) (sn (stepF A'))) n u v ∧ Ext (offY f (cs (stepF A')) (sn (stepF A'))) n (-b) (-a)) := by
  obtain ⟨⟨h0', h1'⟩, r0, r1, r2, r3⟩ := angle_on h0 h1 q0 e
  obtain ⟨s1, s2, s3⟩ := step_at h0 h1
  obtain ⟨t1, t2, t3⟩ := step_at h0' h1'
  rw [s1] at ex ey
  rw [t1]
  obtain ⟨k, ek⟩ : ∃ k, A / 4194304 = k := ⟨_, rfl⟩
  rw [ek] at ex ey r1 r2 r3 s2 s3
  obtain ⟨Q1, Q2, Q3⟩ := quarters k s2 s3
  refine ⟨r0, fun hr => ?_, fun hr => ?_, fun hr => ?_⟩
  · rw [r1 hr, Q1.1, Q1.2]; exact ext_quarter (cn_sn k) h ex ey
  · rw [r2 hr, Q2.1, Q2.2]; exact ext_half (cn_cs k) (cn_sn k) h ex ey
  · rw [r3 hr, Q3.1, Q3.2]; exact ext_three (cn_cs k) h ex ey
end Go.Proofs.Ytmfkcdinfahjlaa.Fx
