/- Plain words: two bodies of places moved by as much touch as they did, moved. -/
import Derived.Test.YtmfkcdinfahjlaaTuM
import Derived.Test.YtmfkcdinfahjlaaBoxQ
import Derived.Test.YtmfkcdinfahjlaaShapes
namespace Go.Proofs.Ytmfkcdinfahjlaa.Fx
set_option linter.unusedVariables false

theorem mul_bd {a b : Int} (ha : -562954248388608 ≤ a ∧ a ≤ 562954248388608) (hb : -34359738368 ≤ b ∧ b ≤ 34359738368) : -4503633987108864 ≤ mulF a b ∧ mulF a b ≤ 4503633987108864 := by
  have key : ∀ x y : Int, 0 ≤ x → x ≤ 562954248388608 → 0 ≤ y → y ≤ 34359738368 → 0 ≤ mulF x y ∧ mulF x y ≤ 4503633987108864 := fun x y h1 h2 h3 h4 => by
    have e : mulF 562954248388608 34359738368 = 4503633987108864 := mul_exact (by unfold Rg; omega) (by unfold Rg; omega) (by unfold Rg; omega) (by omega)
    have := mul_le2 (a := x) (b := y) (c := 562954248388608) (d := 34359738368) (by unfold Rg; omega) (by unfold Rg; omega) (by unfold Rg; omega) (by unfold Rg; omega) h1 h2 h3 h4
    exact ⟨mul_nn (by unfold Rg; omega) (by unfold Rg; omega) h1 h3, by omega⟩
  rcases Int.le_total 0 a with h | h <;> rcases Int.le_total 0 b with h' | h'
  · have := key a b h ha.2 h' hb.2; omega
  · have := key a (-b) h ha.2 (by omega) (by omega)
    rw [mul_neg_right (by unfold Rg; omega) (by unfold Rg; omega)] at this; omega
  · have := key (-a) b (by omega) (by omega) h' hb.2
    rw [mul_neg_left (by unfold Rg; omega) (by unfold Rg; omega)] at this; omega
  · have := key (-a) (-b) (by omega) (by omega) (by omega) (by omega)
    rw [mul_neg_left (by unfold Rg; omega) (by unfold Rg; omega), mul_neg_right (by unfold Rg; omega) (by unfold Rg; omega)] at this; omega
theorem div_bd {a n : Int} (ha : Rg a) (hn : 0 < n) (hm : n < 281474976710656) (h : absF a < n + 131073) : -562954248388608 ≤ divF a n ∧ divF a n ≤ 562954248388608 := by
  have h0 := (absR_bd ha).1
  rw [div_eq ha (by unfold Rg; omega) hn]
  have q0 : 0 ≤ absF a * 4294967296 / n := Int.ediv_nonneg (by omega) (by omega)
  have q3 : absF a * 4294967296 / n ≤ 562954248388608 := by
    refine Int.le_of_lt_add_one (Int.ediv_lt_of_lt_mul hn ?_)
    have := Int.mul_le_mul_of_nonneg_left (show (1 : Int) ≤ n by omega) (show (0 : Int) ≤ 562949953421313 by omega)
    omega
  rw [sign_small _ (by omega)]
  split <;> omega
theorem u_bd {a b : Int} (ha : Sm a) (hb : Sm b) : (-562954248388608 ≤ (uF a b).1 ∧ (uF a b).1 ≤ 562954248388608) ∧ (-562954248388608 ≤ (uF a b).2 ∧ (uF a b).2 ≤ 562954248388608) := by
  obtain ⟨p1, p2⟩ := lens_part ha hb
  have n0 := len_nn a b
  have nb : lenF a b < 281474976710656 := (sqrt_bd _).2
  unfold uF
  split
  · simp only []; omega
  · rename_i h
    exact ⟨div_bd (Sm_Rg ha) (by omega) nb p1, div_bd (Sm_Rg hb) (by omega) nb p2⟩
def Bq : Int := 17592186044416
theorem norm_bd {P : Cs} {n i : Nat} (hn : 0 < n) (hp : ∀ i, i < n → Ne Bq (P i)) (hi : i < n) : (-562954248388608 ≤ (normF P n i).1 ∧ (normF P n i).1 ≤ 562954248388608) ∧ (-562954248388608 ≤ (normF P n i).2 ∧ (normF P n i).2 ≤ 562954248388608) := by
  have h1 := hp i hi
  have h2 := hp ((i + 1) % n) (Nat.mod_lt _ hn)
  unfold Ne Bq at h1 h2
  have e1 : subF (P ((i + 1) % n)).1 (P i).1 = (P ((i + 1) % n)).1 - (P i).1 := sub_fa (by unfold Fa; omega) (by unfold Fa; omega)
  have e2 : subF (P ((i + 1) % n)).2 (P i).2 = (P ((i + 1) % n)).2 - (P i).2 := sub_fa (by unfold Fa; omega) (by unfold Fa; omega)
  obtain ⟨b1, b2⟩ := u_bd (a := subF (P ((i + 1) % n)).1 (P i).1) (b := subF (P ((i + 1) % n)).2 (P i).2) (by rw [e1]; unfold Sm; omega) (by rw [e2]; unfold Sm; omega)
  unfold normF
  simp only []
  refine ⟨b2, ?_⟩
  rw [negR (by unfold Rg; omega)]
  omega
theorem up_q {p : Int × Int} (h : Ne Bq p) : Ne Bi p := by unfold Ne Bq Bi at *; omega
theorem moved_mixed {P P' : Cs} {n : Nat} {C c : Int × Int} {r : Int} (hn : 0 < n) (hp : ∀ i, i < n → Ne Bq (P i)) (hC : Ne Bq C) (hc : Ne Bq c) (hr : 0 ≤ r ∧ r ≤ 34359738368) (e : ∀ i, i < n → P' i = mv c (P i)) :
    MovedT c (mixedF P n C r) (mixedF P' n (mv c C) r) := by
  have hpi : ∀ i, i < n → Ne Bi (P i) := fun i hi => up_q (hp i hi)
  have hCi := up_q hC
  have hci := up_q hc
  have es : sideF P' n (fun _ => mv c C) 1 = sideF P n (fun _ => C) 1 := side_mv (m := 1) hn (by omega) hpi (fun _ _ => hCi) hci e (fun _ _ => rfl)
  have hi := side_lt P n (fun _ => C) 1 hn
  unfold mixedF
  rw [es]
  generalize sideF P n (fun _ => C) 1 = i at *
  have hk : (i + 1) % n < n := Nat.mod_lt _ hn
  have eg : gapF P' n (fun _ => mv c C) 1 i = gapF P n (fun _ => C) 1 i := gap_mv (m := 1) hn (by omega) hpi (fun _ _ => hCi) hci e (fun _ _ => rfl) hi
  have en : normF P' n i = normF P n i := norm_mv hn hpi hci e hi
  have bN := norm_bd hn hp hi
  have e1 : subV (mv c C) (mv c (P i)) = subV C (P i) := sub_mv hCi (hpi i hi) hci
  have e2 : subV (mv c C) (mv c (P ((i + 1) % n))) = subV C (P ((i + 1) % n)) := sub_mv hCi (hpi _ hk) hci
  have e3 : subV (mv c (P ((i + 1) % n))) (mv c (P i)) = subV (P ((i + 1) % n)) (P i) := sub_mv (hpi _ hk) (hpi i hi) hci
  have at_ : Ne Bi (subV C (scaV (normF P n i) r)) ∧ subV (mv c C) (scaV (normF P n i) r) = mv c (subV C (scaV (normF P n i) r)) := by
    have m1 := mul_bd bN.1 (b := r) (by omega)
    have m2 := mul_bd bN.2 (b := r) (by omega)
    unfold scaV subV mv
    simp only []
    generalize mulF (normF P n i).1 r = u at *
    generalize mulF (normF P n i).2 r = v at *
    unfold Ne Bq at hC hc
    have s1 : subF C.1 u = C.1 - u := sub_fa (by unfold Fa; omega) (by unfold Fa; omega)
    have s2 : subF C.2 v = C.2 - v := sub_fa (by unfold Fa; omega) (by unfold Fa; omega)
    have s3 : subF (C.1 + c.1) u = C.1 + c.1 - u := sub_fa (by unfold Fa; omega) (by unfold Fa; omega)
    have s4 : subF (C.2 + c.2) v = C.2 + c.2 - v := sub_fa (by unfold Fa; omega) (by unfold Fa; omega)
    rw [s1, s2, s3, s4]
    refine ⟨?_, ?_⟩
    · unfold Ne Bi; simp only []; omega
    · congr 1 <;> omega
  unfold mixedI
  rw [eg, en, e _ hk, e i hi, e1, e2, e3, at_.2]
  split
  · exact moved_none c
  · split
    · exact moved_one at_.1 hci
    · split
      · exact moved_corner (hpi i hi) hci
      · split
        · exact moved_corner (hpi _ hk) hci
        · exact moved_one at_.1 hci
theorem moved_polys {P P' Q Q' : Cs} {n m : Nat} {c : Int × Int} (hn : 0 < n) (hm : 0 < m) (hp : ∀ i, i < n → Ne Bq (P i)) (hq : ∀ i, i < m → Ne Bq (Q i)) (hc : Ne Bq c) (e : ∀ i, i < n → P' i = mv c (P i)) (e2 : ∀ i, i < m → Q' i = mv c (Q i)) :
    MovedT c (polysF P n Q m) (polysF P' n Q' m) := by
  have hci := up_q hc
  have clip : ∀ (P P' Q Q' : Cs) (n m i : Nat) (key : Int), 0 < n → 0 < m → (∀ i, i < n → Ne Bq (P i)) → (∀ i, i < m → Ne Bq (Q i)) → (∀ i, i < n → P' i = mv c (P i)) → (∀ i, i < m → Q' i = mv c (Q i)) → i < n → MovedT c (clipF P n Q m i key) (clipF P' n Q' m i key) := fun P P' Q Q' n m i key hn hm hp hq e e2 hi => by
    have hpi : ∀ i, i < n → Ne Bi (P i) := fun i hi => up_q (hp i hi)
    have hqi : ∀ i, i < m → Ne Bi (Q i) := fun i hi => up_q (hq i hi)
    have hk : (i + 1) % n < n := Nat.mod_lt _ hn
    have en : normF P' n i = normF P n i := norm_mv hn hpi hci e hi
    have ei : incF (normF P n i) Q' m = incF (normF P n i) Q m := by
      unfold incF
      exact botF_congr _ fun j hj => by rw [norm_mv hm hqi hci e2 (by omega)]
    have hj := inc_lt (normF P n i) Q m hm
    have hj2 : (incF (normF P n i) Q m + 1) % m < m := Nat.mod_lt _ hm
    unfold clipF
    rw [en, ei, e i hi, e _ hk, e2 _ hj, e2 _ hj2]
    exact moved_clip (B := Bq) (by unfold Bq Bi; omega) (hpi i hi) (hpi _ hk) (hq _ hj) (hq _ hj2) hci
  have hpi : ∀ i, i < n → Ne Bi (P i) := fun i hi => up_q (hp i hi)
  have hqi : ∀ i, i < m → Ne Bi (Q i) := fun i hi => up_q (hq i hi)
  have s1 : sideF P' n Q' m = sideF P n Q m := side_mv hn hm hpi hqi hci e e2
  have s2 : sideF Q' m P' n = sideF Q m P n := side_mv hm hn hqi hpi hci e2 e
  have l1 := side_lt P n Q m hn
  have l2 := side_lt Q m P n hm
  unfold polysF
  rw [s1, s2, gap_mv hn hm hpi hqi hci e e2 l1, gap_mv hm hn hqi hpi hci e2 e l2]
  split
  · exact moved_none c
  · split
    · exact (clip Q Q' P P' m n _ _ hm hn hq hp e2 e l2).neg
    · exact clip P P' Q Q' n m _ _ hn hm hp hq e e2 l1
theorem moved_rounds {a b c : Int × Int} {ra rb : Int} (ha : Ne Bq a) (hb : Ne Bq b) (hc : Ne Bq c) (r0 : 0 < ra ∧ ra ≤ 17179869184) (r1 : 0 < rb ∧ rb ≤ 17179869184) : MovedT c (roundsF a ra b rb) (roundsF (mv c a) ra (mv c b) rb) := by
  have e1 : subV (mv c b) (mv c a) = subV b a := sub_mv (up_q hb) (up_q ha) (up_q hc)
  have hl0 : 0 ≤ lenV (subV b a) := len_nn _ _
  have hlb : lenV (subV b a) < 281474976710656 := (sqrt_bd _).2
  have eadd : addF ra rb = ra + rb := by rw [addR (by unfold Rg; omega) (by unfold Rg; omega), satR (by unfold Rg; omega)]
  have eN : roundsN (mv c a) (mv c b) = roundsN a b := by unfold roundsN; rw [e1]
  unfold roundsF
  rw [e1, eN]
  split
  · exact moved_none c
  · rename_i h
    rw [eadd] at h ⊢
    have bN : (-562954248388608 ≤ (roundsN a b).1 ∧ (roundsN a b).1 ≤ 562954248388608) ∧ (-562954248388608 ≤ (roundsN a b).2 ∧ (roundsN a b).2 ≤ 562954248388608) := by
      unfold roundsN
      split
      · unfold Ne Bq at ha hb
        have q1 : subF b.1 a.1 = b.1 - a.1 := sub_fa (by unfold Fa; omega) (by unfold Fa; omega)
        have q2 : subF b.2 a.2 = b.2 - a.2 := sub_fa (by unfold Fa; omega) (by unfold Fa; omega)
        exact u_bd (a := subF b.1 a.1) (b := subF b.2 a.2) (by rw [q1]; unfold Sm; omega) (by rw [q2]; unfold Sm; omega)
      · simp only []; omega
    have es : subF (ra + rb) (lenV (subV b a)) = ra + rb - lenV (subV b a) := sub_fa (by unfold Fa; omega) (by unfold Fa; omega)
    rw [es]
    generalize lenV (subV b a) = n at *
    have ed : divF (ra + rb - n) 8589934592 = (ra + rb - n) * 4294967296 / 8589934592 := by
      rw [div_eq (by unfold Rg; omega) (by unfold Rg; omega) (by omega), absR (by unfold Rg; omega), if_neg (by omega), decide_eq_false (by omega), sign_small _ (by omega)]
      rfl
    have hs : -34359738368 ≤ subF ra (divF (ra + rb - n) 8589934592) ∧ subF ra (divF (ra + rb - n) 8589934592) ≤ 34359738368 := by
      rw [ed, sub_fa (by unfold Fa; omega) (by unfold Fa; omega)]
      omega
    generalize subF ra (divF (ra + rb - n) 8589934592) = s at *
    have m1 := mul_bd bN.1 hs
    have m2 := mul_bd bN.2 hs
    have at_ : Ne Bi (addV a (scaV (roundsN a b) s)) ∧ addV (mv c a) (scaV (roundsN a b) s) = mv c (addV a (scaV (roundsN a b) s)) := by
      unfold scaV addV mv
      simp only []
      generalize mulF (roundsN a b).1 s = u at *
      generalize mulF (roundsN a b).2 s = v at *
      unfold Ne Bq at ha hc
      have s1 : addF a.1 u = a.1 + u := add_fa (by unfold Fa; omega) (by unfold Fa; omega)
      have s2 : addF a.2 v = a.2 + v := add_fa (by unfold Fa; omega) (by unfold Fa; omega)
      have s3 : addF (a.1 + c.1) u = a.1 + c.1 + u := add_fa (by unfold Fa; omega) (by unfold Fa; omega)
      have s4 : addF (a.2 + c.2) v = a.2 + c.2 + v := add_fa (by unfold Fa; omega) (by unfold Fa; omega)
      rw [s1, s2, s3, s4]
      refine ⟨?_, ?_⟩
      · unfold Ne Bi; simp only []; omega
      · congr 1 <;> omega
    rw [at_.2]
    exact moved_one at_.1 (up_q hc)
/-- a corner in place -/
theorem place_off {f : Cs} {n : Nat} {c s X Y : Int} (hc : Cn c) (hs : Cn s) (h : Tiny f n) (hX : Pl X) (hY : Pl Y) {i : Nat} (hi : i < n) : placeF f c s X Y i = (offX f c s i + X, offY f c s i + Y) := by
  obtain ⟨a1, a2⟩ := off_sub hc hs h hi
  have b := off_bd hc hs h hi
  unfold placeF
  rw [a1, a2, off_add hX (by omega), off_add hY (by omega)]
theorem place_mv {f : Cs} {n : Nat} {c s X Y bx b_y : Int} (hc : Cn c) (hs : Cn s) (h : Tiny f n) (hX : -4294967296000 ≤ X ∧ X ≤ 4294967296000) (hY : -4294967296000 ≤ Y ∧ Y ≤ 4294967296000) (hb : -4294967296000 ≤ bx ∧ bx ≤ 4294967296000) (hb2 : -4294967296000 ≤ b_y ∧ b_y ≤ 4294967296000) {i : Nat} (hi : i < n) :
    Ne Bq (placeF f c s X Y i) ∧ placeF f c s (X + bx) (Y + b_y) i = mv (bx, b_y) (placeF f c s X Y i) := by
  have b := off_bd hc hs h hi
  rw [place_off hc hs h (by unfold Pl; omega) (by unfold Pl; omega) hi, place_off hc hs h (by unfold Pl; omega) (by unfold Pl; omega) hi]
  refine ⟨?_, ?_⟩
  · unfold Ne Bq; simp only []; omega
  · unfold mv; simp only []; congr 1 <;> omega
end Go.Proofs.Ytmfkcdinfahjlaa.Fx
