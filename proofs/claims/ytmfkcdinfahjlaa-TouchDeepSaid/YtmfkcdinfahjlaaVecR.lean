/- Turning a vector, plain: back again nearly, as long as before nearly. -/
import Derived.Test.YtmfkcdinfahjlaaPlain
import Derived.Test.YtmfkcdinfahjlaaTurnP
namespace Go.Proofs.Ytmfkcdinfahjlaa.Fx
set_option linter.unusedVariables false

def normOk (k : Int) : Bool := decide (18446744056529682432 ≤ cs k * cs k + sn k * sn k) && decide (cs k * cs k + sn k * sn k ≤ 18446744090889420800)
set_option maxRecDepth 100000 in
theorem norm_check : (List.range 1024).all (fun k => normOk k) = true := by decide +kernel
theorem norm_near (k : Int) (h0 : 0 ≤ k) (h1 : k < 1024) : 18446744056529682432 ≤ cs k * cs k + sn k * sn k ∧ cs k * cs k + sn k * sn k ≤ 18446744090889420800 := by
  have := all_in (p := normOk) 1024 norm_check k h0 h1
  simpa [normOk] using this
/-- a component of at most 1000 -/
def Th (a : Int) : Prop := -4294967296000 ≤ a ∧ a ≤ 4294967296000
theorem th_sm {a : Int} (h : Th a) : Sm a := by unfold Th Sm at *; omega
/-- a cosine or a sine -/
def Cn (a : Int) : Prop := -4294967296 ≤ a ∧ a ≤ 4294967296
theorem cn_sm {a : Int} (h : Cn a) : Sm a := by unfold Cn Sm at *; omega
theorem cn_mul {c a X : Int} (hc : Cn c) (h0 : -X ≤ a) (h1 : a ≤ X) : -(4294967296 * X) ≤ c * a ∧ c * a ≤ 4294967296 * X := prod_in hc.1 hc.2 h0 h1
/-- a turned component: its size, and how far it is off -/
theorem turn_sub {c s a b X : Int} (hc : Cn c) (hs : Cn s) (ha : -X ≤ a ∧ a ≤ X) (hb : -X ≤ b ∧ b ≤ X) (hX : X ≤ 17179869184000) :
    (-(2 * X) ≤ subF (mulF c a) (mulF s b) ∧ subF (mulF c a) (mulF s b) ≤ 2 * X) ∧ -8589934592 ≤ 4294967296 * subF (mulF c a) (mulF s b) - c * a + s * b ∧ 4294967296 * subF (mulF c a) (mulF s b) - c * a + s * b ≤ 8589934592 := by
  have n1 := mul_near (cn_sm hc) (b := a) (by unfold Sm; omega)
  have n2 := mul_near (cn_sm hs) (b := b) (by unfold Sm; omega)
  have p1 := cn_mul hc ha.1 ha.2
  have p2 := cn_mul hs hb.1 hb.2
  have e : subF (mulF c a) (mulF s b) = mulF c a - mulF s b := by
    unfold subF
    rw [negR (rg_mul _ _), addR (rg_mul _ _) (Rg_neg (rg_mul _ _)), satR (by unfold Rg; omega)]; omega
  rw [e]; omega
theorem turn_add {c s a b X : Int} (hc : Cn c) (hs : Cn s) (ha : -X ≤ a ∧ a ≤ X) (hb : -X ≤ b ∧ b ≤ X) (hX : X ≤ 17179869184000) :
    (-(2 * X) ≤ addF (mulF c a) (mulF s b) ∧ addF (mulF c a) (mulF s b) ≤ 2 * X) ∧ -8589934592 ≤ 4294967296 * addF (mulF c a) (mulF s b) - c * a - s * b ∧ 4294967296 * addF (mulF c a) (mulF s b) - c * a - s * b ≤ 8589934592 := by
  have n1 := mul_near (cn_sm hc) (b := a) (by unfold Sm; omega)
  have n2 := mul_near (cn_sm hs) (b := b) (by unfold Sm; omega)
  have p1 := cn_mul hc ha.1 ha.2
  have p2 := cn_mul hs hb.1 hb.2
  have e : addF (mulF c a) (mulF s b) = mulF c a + mulF s b := by
    rw [addR (rg_mul _ _) (rg_mul _ _), satR (by unfold Rg; omega)]
  rw [e]; omega
theorem back_near {C S a b p q c : Int} (hC : Cn C) (hS : Cn S) (hn : 18446744056529682432 ≤ C * C + S * S ∧ C * C + S * S ≤ 18446744090889420800) (ha : Th a)
    (e1 : -8589934592 ≤ 4294967296 * p - C * a + S * b ∧ 4294967296 * p - C * a + S * b ≤ 8589934592) (e2 : -8589934592 ≤ 4294967296 * q - S * a - C * b ∧ 4294967296 * q - S * a - C * b ≤ 8589934592)
    (e0 : -8589934592 ≤ 4294967296 * c - C * p - S * q ∧ 4294967296 * c - C * p - S * q ≤ 8589934592) : -4100 < c - a ∧ c - a < 4100 := by
  have h1 : C * (4294967296 * p - C * a + S * b) = 4294967296 * (C * p) - C * C * a + C * S * b := by
    rw [Int.mul_add, Int.mul_sub, Int.mul_left_comm C 4294967296 p, ← Int.mul_assoc C C, ← Int.mul_assoc C S]
  have h2 : S * (4294967296 * q - S * a - C * b) = 4294967296 * (S * q) - S * S * a - C * S * b := by
    rw [Int.mul_sub, Int.mul_sub, Int.mul_left_comm S 4294967296 q, ← Int.mul_assoc S S, ← Int.mul_assoc S C, Int.mul_comm S C]
  have h3 : (C * C + S * S - 18446744073709551616) * a = C * C * a + S * S * a - 18446744073709551616 * a := by
    rw [Int.sub_mul, Int.add_mul]
  have b1 := cn_mul hC e1.1 e1.2
  have b2 := cn_mul hS e2.1 e2.2
  have b3 := prod_in (x := C * C + S * S - 18446744073709551616) (X := 17179869184) (by omega) (by omega) ha.1 ha.2
  rw [h1] at b1
  rw [h2] at b2
  rw [h3] at b3
  generalize C * p = u at *
  generalize S * q = v at *
  generalize C * C * a = x at *
  generalize S * S * a = y at *
  generalize C * S * b = z at *
  omega
theorem len_near {C S a b p q : Int} (hC : Cn C) (hS : Cn S) (hn : 18446744056529682432 ≤ C * C + S * S ∧ C * C + S * S ≤ 18446744090889420800) (ha : Th a) (hb : Th b)
    (hp : Sm p) (hq : Sm q)
    (e1 : -8589934592 ≤ 4294967296 * p - C * a + S * b ∧ 4294967296 * p - C * a + S * b ≤ 8589934592) (e2 : -8589934592 ≤ 4294967296 * q - S * a - C * b ∧ 4294967296 * q - S * a - C * b ≤ 8589934592) :
    -1048576 < lenF p q - lenF a b ∧ lenF p q - lenF a b < 1048576 := by
  obtain ⟨n0, n1, n2⟩ := len_spec (th_sm ha) (th_sm hb)
  obtain ⟨m0, m1, m2⟩ := len_spec hp hq
  obtain ⟨l1, l2⟩ := lens_part (th_sm ha) (th_sm hb)
  have l3 := lens_sum (th_sm ha) (th_sm hb)
  have ra := absR (Sm_Rg (th_sm ha))
  have rb := absR (Sm_Rg (th_sm hb))
  have xa : absF a ≤ 4294967296000 := by rw [ra]; unfold Th at ha; split <;> omega
  have xb : absF b ≤ 4294967296000 := by rw [rb]; unfold Th at hb; split <;> omega
  have ia : -absF a ≤ a ∧ a ≤ absF a := by rw [ra]; split <;> omega
  have ib : -absF b ≤ b ∧ b ≤ absF b := by rw [rb]; split <;> omega
  have ya := absF_nn a
  have yb := absF_nn b
  generalize lenF a b = n at *
  generalize lenF p q = m at *
  generalize absF a = x at *
  generalize absF b = y at *
  obtain ⟨G, eG⟩ : ∃ G, G = C * a - S * b := ⟨_, rfl⟩
  obtain ⟨H, eH⟩ : ∃ H, H = C * b + S * a := ⟨_, rfl⟩
  obtain ⟨E, eE⟩ : ∃ E, E = 4294967296 * p - G := ⟨_, rfl⟩
  obtain ⟨F, eF⟩ : ∃ F, F = 4294967296 * q - H := ⟨_, rfl⟩
  have c1 := cn_mul hC ia.1 ia.2
  have c2 := cn_mul hS ib.1 ib.2
  have c3 := cn_mul hC ib.1 ib.2
  have c4 := cn_mul hS ia.1 ia.2
  have bE : -8589934592 ≤ E ∧ E ≤ 8589934592 := by omega
  have bF : -8589934592 ≤ F ∧ F ≤ 8589934592 := by omega
  have bG : -(4294967296 * (x + y)) ≤ G ∧ G ≤ 4294967296 * (x + y) := by omega
  have bH : -(4294967296 * (x + y)) ≤ H ∧ H ≤ 4294967296 * (x + y) := by omega
  have f1 := prod_in bG.1 bG.2 bE.1 bE.2
  have f2 := prod_in bH.1 bH.2 bF.1 bF.2
  have f3 := prod_in bE.1 bE.2 bE.1 bE.2
  have f4 := prod_in bF.1 bF.2 bF.1 bF.2
  have z3 := sq_nn E
  have z4 := sq_nn F
  have L := lagrange C S b a
  rw [← eG, ← eH] at L
  have s1 := sq_add G E
  rw [show G + E = 4294967296 * p by omega] at s1
  have s2 := sq_add H F
  rw [show H + F = 4294967296 * q by omega] at s2
  have t1 : 4294967296 * p * (4294967296 * p) = 18446744073709551616 * (p * p) := by
    rw [Int.mul_assoc, Int.mul_left_comm p]; omega
  have t2 : 4294967296 * q * (4294967296 * q) = 18446744073709551616 * (q * q) := by
    rw [Int.mul_assoc, Int.mul_left_comm q]; omega
  rw [t1] at s1
  rw [t2] at s2
  have za := sq_nn a
  have zb := sq_nn b
  have L2 : 18446744056529682432 * (b * b + a * a) ≤ (C * C + S * S) * (b * b + a * a) := Int.mul_le_mul_of_nonneg_right hn.1 (by omega)
  have L3 : (C * C + S * S) * (b * b + a * a) ≤ 18446744090889420800 * (b * b + a * a) := Int.mul_le_mul_of_nonneg_right hn.2 (by omega)
  rw [L] at L2 L3
  have nb : n ≤ 8589934592000 := by omega
  have nn : n * n ≤ 8589934592000 * n := Int.mul_le_mul_of_nonneg_right nb n0
  have q1 := sq_add n 1
  have q2 := sq_add n 1048576
  have q3 := sq_add n (-1048575)
  generalize a * a = A at *
  generalize b * b = B at *
  generalize p * p = P at *
  generalize q * q = Q at *
  generalize G * G = U at *
  generalize H * H = V at *
  generalize G * E = W at *
  generalize H * F = X at *
  generalize E * E = Y at *
  generalize F * F = Z at *
  generalize n * n = T at *
  clear L eG eH eE eF c1 c2 c3 c4 e1 e2 bE bF bG bH ia ib ra rb hC hS hn hp hq
  have up : 18446744073709551616 * (P + Q) ≤ 18446744090889420800 * (A + B) + 147573952589676412928 * (x + y) + 147573952589676412928 := by omega
  have lo : 18446744056529682432 * (A + B) - 147573952589676412928 * (x + y) ≤ 18446744073709551616 * (P + Q) := by omega
  clear f1 f2 f3 f4 s1 s2 L2 L3 z3 z4
  constructor
  · rcases lt_or_le (-1048576) (m - n) with c | c
    · exact c
    · exfalso
      have h := sq_le (x := m + 1) (y := n + (-1048575)) (by omega) (by omega)
      omega
  · rcases lt_or_le (m - n) 1048576 with c | c
    · exact c
    · exfalso
      have h := sq_le (x := n + 1048576) (y := m) (by omega) (by omega)
      omega
end Go.Proofs.Ytmfkcdinfahjlaa.Fx
