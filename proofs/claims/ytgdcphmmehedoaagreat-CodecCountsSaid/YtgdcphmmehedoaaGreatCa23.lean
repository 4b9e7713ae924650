/- CoU -/
import Derived.Test.YtgdcphmmehedoaaGreatCa22
set_option maxRecDepth 100000
set_option maxHeartbeats 64000000
/- Layer 15: CodecCounts. -/
namespace Go.Proofs.YtgdcphmmehedoaaGreat.Fx
open Go.ChangeShapes Go.WideShapes Go.ChangeAt Go.RowKit
set_option linter.unusedVariables false
def pull5 : Or := ⟨6, 0, 0, 0, 0, 0, 5, 0, 0, 0, 0, 0, 0, 0, none, 0, 0, fun _ => (0, 0)⟩
def pulls (k : Nat) : List Nat := (List.replicate k pull5).flatMap orB
theorem pull5_B : orB pull5 = nb 1 6 ++ (nb 8 5 ++ nb 8 0) := by
 unfold orB pull5
 simp only []
 rw [if_neg (show ¬ (6 : Int) = 1 by decide), if_neg (show ¬ ((6 : Int) = 2 ∨ (6 : Int) = 4) by decide), if_neg (show ¬ (6 : Int) = 3 by decide), if_neg (show ¬ (6 : Int) = 5 by decide), if_pos trivial]
theorem pull5_P : OrderP pull5 := .inr (.inr (.inr (.inr ⟨rfl, ⟨rfl, rfl, rfl, rfl, rfl⟩, rfl, rfl, rfl, ⟨rfl, rfl⟩, rfl, rfl, by show Inn 5 17592186044416; unfold Inn; omega, by show Inn 0 17592186044416; unfold Inn; omega⟩)))
theorem pull5_I : OrI pull5 := by
 have z := i64_z
 exact ⟨by show I64 6; unfold I64; omega, z, z, z, z, z, by show I64 5; unfold I64; omega, z, z, z, z, z, z, z, fun i hi => absurd hi (Nat.not_lt_zero _)⟩
theorem pulls_next (k : Nat) : pulls (k + 1) = pulls k ++ orB pull5 := by
 unfold pulls
 rw [List.replicate_succ', List.flatMap_append]
 simp
theorem pulls_len : ∀ k, (pulls k).length = 17 * k
 | 0 => rfl
 | k + 1 => by
  rw [pulls_next, List.length_append, pulls_len k, pull5_B]
  simp only [List.length_append, nb_len]
  omega
theorem pulls_app (a b : Nat) : pulls (a + b) = (List.replicate a pull5).flatMap orB ++ pulls b := by
 unfold pulls
 rw [← List.replicate_append_replicate, List.flatMap_append]
theorem dO_nil : dO (some []) = (Or.kind 0, none) := by
 unfold dO
 rw [show dN 1 (some []) = (0, none) from rfl]
 rfl
theorem dRead_out : ∀ (a n : Nat), a < n → (dRead dO n (some (pulls a))).2 = none
 | 0, 0, h => by omega
 | 0, n + 1, _ => by
  show (dRead dO (n + 1) (some [])).2 = none
  rw [dRead_some, dO_nil, dRead_none]
 | a + 1, 0, h => by omega
 | a + 1, n + 1, h => by
  have e : pulls (a + 1) = orB pull5 ++ pulls a := by
   have := pulls_app 1 a
   rw [Nat.add_comm] at this
   rw [this]
   simp
  rw [e, dRead_some, dO_of pull5_P pull5_I]
  exact dRead_out a n (by omega)
theorem counted (k m : Nat) (hk : k ≤ 100) (hm : m < 256) : (OkB (nb 2 (m : Nat) ++ pulls k) ↔ m = k ∧ k ≤ 64) ∧ (m = k → k ≤ 64 → (dBat (some (nb 2 (m : Nat) ++ pulls k))).1.length = k) := by
 have hd : dC 64 (some (nb 2 (m : Nat) ++ pulls k)) = if (64 : Int) < (m : Int) then (0, none) else ((m : Int), some (pulls k)) := by
  unfold dC
  rw [dN_nb 2 (by omega) (m : Nat) (by omega) (by omega)]
 by_cases h1 : 64 < m
 ·rw [if_pos (by omega)] at hd
  have e : dBat (some (nb 2 (m : Nat) ++ pulls k)) = ([], none) := by
   unfold dBat; rw [hd]; rfl
  refine ⟨⟨fun h => ?_, fun h => by omega⟩, fun h h2 => by omega⟩
  have := h.1
  rw [e] at this
  cases this
 ·rw [if_neg (by omega)] at hd
  have e : dBat (some (nb 2 (m : Nat) ++ pulls k)) = dRead dO m (some (pulls k)) := by
   unfold dBat; rw [hd]; simp only [Int.toNat_natCast]
  by_cases h2 : k < m
  ·refine ⟨⟨fun h => ?_, fun h => by omega⟩, fun h h2 => by omega⟩
   have := h.1
   rw [e, dRead_out k m h2] at this
   cases this
  ·have h3 := dRead_of (one := dO) (enc := orB) nrm (List.replicate m pull5) (pulls (k - m)) (fun d hd l => by rw [(List.mem_replicate.1 hd).2]; exact dO_of pull5_P pull5_I l)
   rw [List.length_replicate, ← pulls_app m (k - m), show m + (k - m) = k by omega] at h3
   refine ⟨⟨fun h => ⟨?_, ?_⟩, fun h => ⟨?_, fun o ho => ?_⟩⟩, fun h h2 => ?_⟩
   ·have h4 := h.1
    rw [e, h3] at h4
    have h5 : pulls (k - m) = [] := Option.some.inj h4
    have h6 := pulls_len (k - m)
    rw [h5] at h6
    simp at h6
    omega
   ·have h4 := h.1
    rw [e, h3] at h4
    have h5 : pulls (k - m) = [] := Option.some.inj h4
    have h6 := pulls_len (k - m)
    rw [h5] at h6
    simp at h6
    omega
   ·rw [e, h3, h.1, Nat.sub_self]
    rfl
   ·rw [e, h3] at ho
    obtain ⟨x, hx, rfl⟩ := List.mem_map.1 ho
    rw [(List.mem_replicate.1 hx).2]
    exact .inr (.inr (.inr (.inr ⟨rfl, ⟨rfl, rfl, rfl, rfl, rfl⟩, rfl, rfl, rfl, ⟨rfl, rfl⟩, rfl, rfl, by show Inn 5 17592186044416; unfold Inn; omega, by show Inn 0 17592186044416; unfold Inn; omega⟩)))
   ·rw [e, h3]
    simp
    omega
theorem nb2_0 (m : Nat) (hm : m < 256) : nb 2 (m : Nat) = [m, 0] := by
 unfold nb
 show [byteZ (m : Nat) 0, byteZ (m : Nat) 1] = [m, 0]
 unfold byteZ
 have a0 : ((m : Int) / 256 ^ 0 % 256).toNat = m := by omega
 have a1 : ((m : Int) / 256 ^ 1 % 256).toNat = 0 := by omega
 rw [a0, a1]
theorem set_count (k m : Nat) (l : List Nat) (hk : k < 256) (hm : m < 256) (i : Nat) : (if i = 0 then m else gl (nb 2 (k : Nat) ++ l) i) = gl (nb 2 (m : Nat) ++ l) i := by
 rw [nb2_0 k hk, nb2_0 m hm]
 cases i with
 | zero => rfl
 | succ i =>
  rw [if_neg (by omega)]
  cases i with
  | zero => rfl
  | succ i => rfl
theorem count_lt (m k : Nat) : ∀ b ∈ nb 2 (m : Nat) ++ pulls k, b < 256 := by
 intro b hb
 rcases List.mem_append.1 hb with h | h
 ·exact nb_lt h
 ·unfold pulls at h
  obtain ⟨o, ho, h⟩ := List.mem_flatMap.1 h
  rw [(List.mem_replicate.1 ho).2, pull5_B] at h
  rcases List.mem_append.1 h with h | h
  ·exact nb_lt h
  ·rcases List.mem_append.1 h with h | h <;> exact nb_lt h
theorem ccounts_walk {a r : Int} {w : World} (h0 : 0 ≤ a) (h1 : a ≤ 255) (h2 : -128 ≤ r) (h3 : r ≤ 127) :
  Calls Tryz.prog 6 #[.int .u8 a, .int .i8 r] w fun e w' => e = .returned (.bool true) ∧ Made w.heap.size w w' := by
 obtain ⟨q, eq⟩ : ∃ q : Nat, a % 10 = (q : Int) := ⟨(a % 10).toNat, by omega⟩
 have eqt : a.tmod 10 = (q : Int) := by rw [Int.tmod_eq_emod_of_nonneg h0]; exact eq
 have lq : q < 10 := by omega
 obtain ⟨k, ek⟩ : ∃ k : Nat, (60 : Int) + (q : Int) = (k : Int) := ⟨60 + q, by omega⟩
 have lk : 60 ≤ k ∧ k ≤ 69 := by omega
 obtain ⟨t, et⟩ : ∃ t : Int, r.tmod 20 = t := ⟨_, rfl⟩
 have lt1 : -20 < t ∧ t < 20 := by
  rw [← et]
  have h4 := Int.tmod_lt_of_pos r (show (0 : Int) < 20 by omega)
  have h5 := Int.tmod_lt_of_pos (-r) (show (0 : Int) < 20 by omega)
  rw [Int.neg_tmod] at h5
  omega
 obtain ⟨m, em⟩ : ∃ m : Nat, (k : Int) + t = (m : Int) := ⟨((k : Int) + t).toNat, by omega⟩
 have lm : 41 ≤ m ∧ m ≤ 88 := by omega
 have em2 : (m : Int) % 256 = (m : Int) := by omega
 have HT : Hid (t = 0 ↔ m = k) := by unfold Hid; omega
 have lk1 := lk.1; have lk2 := lk.2; have lm1 := lm.1; have lm2 := lm.2; have ltt1 := lt1.1; have ltt2 := lt1.2
 clear lk lm lt1
 go_enter Tryz.func6, Tryz.ntmps6
 go_wp2_with fail
 refine fit15_c.mono ?_
 rintro e w1 ⟨rfl, hM⟩
 have HM1 := hid hM
 clear hM
 obtain ⟨PG, ePG⟩ : ∃ PG, w1.heap.size = PG := ⟨_, rfl⟩
 have HPG := hid ePG
 have M2 : Hid (Made PG w1 (w1.alloc (.cells #[Value.slice none 0 0] 69))) := by rw [← ePG]; exact (Made.rfl_ _ _).cells (Nat.le_refl _) _ _
 have W2 : Hid (Wv (w1.alloc (.cells #[Value.slice none 0 0] 69)) PG (.slice none 0 0) []) := by rw [← ePG]; exact Wv.new w1 69
 go_wp2_with fail
 clear ePG
 refine (wnum_c (m := 2) (X := (k : Nat)) W2.out (by omega) (by simp) (by omega) (by omega)).mono ?_
 rintro e w2 ⟨rfl, v2, hW2, hC2⟩
 have HW2 : Hid (Wv w2 PG v2 (nb 2 (k : Nat) ++ pulls 0)) := by
  unfold Hid
  rw [show pulls 0 = [] from rfl, List.append_nil]
  simpa using hW2
 have HM2 := hid (M2.out.then_ (Wc.low W2.out hC2))
 clear hW2 hC2
 go_wp2_with fail
 go_loopg [21] k (fun gg s21 wx => ∃ (j : Nat) (v3 : Value), j + gg = k ∧ s21 = .int .i64 (j : Nat) ∧ Hid (Wv wx PG v3 (nb 2 (k : Nat) ++ pulls j)) ∧ Hid (Made PG w1 wx))
 case atStart => exact ⟨0, v2, by omega, by first | rfl | trivial, HW2.out, HM2.out⟩
 case round =>
  obtain ⟨j, v3, hj, rfl, HW3, HM3⟩ := hrel
  by_cases hlt : j < k
  ·have hl3 : Hid ((nb 2 (k : Nat) ++ pulls j).length ≤ 2000) := by unfold Hid; rw [List.length_append, nb_len, pulls_len]; omega
   have HC3 := hid (wnum_c (m := 1) (X := 6) HW3.out (by omega) (by have := hl3.out; omega) (by omega) (by omega))
   go_wp2_with fail
   refine HC3.out.mono ?_
   rintro e w4 ⟨rfl, v4, hW4, hC4⟩
   have HW4 : Hid (Wv w4 PG v4 (nb 2 (k : Nat) ++ pulls j ++ nb 1 6)) := hW4
   have HM4 := hid (HM3.out.then_ (Wc.low HW3.out hC4))
   clear hW4 hC4
   have KA : Hid (Made w4.heap.size w4 (w4.alloc (.cells #[Value.int .i64 5, Value.int .i64 0] 28))) := (Made.rfl_ _ _).cells (Nat.le_refl _) _ _
   have HWA := hid (HW4.out.kept KA.out)
   have HMA := hid (HM4.out.then_ (KA.out.low (Nat.le_of_lt HW4.out.here)))
   have HAs : Hid (Has (w4.alloc (.cells #[Value.int .i64 5, Value.int .i64 0] 28)) w4.heap.size 28 #[Value.int .i64 5, Value.int .i64 0]) := has_new _ _ _
   have hl4 : Hid ((nb 2 (k : Nat) ++ pulls j ++ nb 1 6).length ≤ 2001) := by unfold Hid; rw [List.length_append, nb_len]; have := hl3.out; omega
   have HC5 := hid (wv_c (n := 1) (c := 1) HWA.out (sl1 HAs.out) (fun _ => offs_of (HW4.out.off (.inr (Nat.le_refl _))) (by omega)) (cin_c1 (by unfold I64; omega) (by unfold I64; omega)) (by have := hl4.out; omega))
   go_wp2_with fail
   refine HC5.out.mono ?_
   rintro e w5 ⟨rfl, v5, hW5, hC5⟩
   have HW5 : Hid (Wv w5 PG v5 (nb 2 (k : Nat) ++ pulls (j + 1))) := by
    unfold Hid
    rw [pulls_next, pull5_B, ← vB1, ← List.append_assoc, ← List.append_assoc]
    exact hW5
   have HM5 := hid (HMA.out.then_ (Wc.low HWA.out hC5))
   clear hW5 hC5
   go_wp2_with fail
   go_roundg (k - (j + 1))
   case measure => omega
   case rel => exact ⟨j + 1, v5, by omega, by go_num, HW5.out, HM5.out⟩
  ·have e : j = k := by omega
   subst e
   obtain ⟨n, en⟩ : ∃ n, (nb 2 (j : Nat) ++ pulls j).length = n := ⟨_, rfl⟩
   have ln1 : 0 < n := by rw [← en, List.length_append, nb_len]; omega
   have ln2 : n ≤ 2000 := by rw [← en, List.length_append, nb_len, pulls_len]; omega
   have HEN := hid en
   have HBy := hid (wbytes_c HW3.out (by rw [en]; omega))
   rw [en] at HBy
   have hPr : PG ≤ wr.heap.size := Nat.le_of_lt HW3.out.here
   clear en
   go_wp2_with fail
   refine HBy.out.mono ?_
   rintro e w6 ⟨ao, c, rfl, hc, hO, hM⟩
   obtain ⟨_, _, e0, _, _, hg⟩ := hO.shape
   cases e0
   obtain ⟨g, rfl, hg1, hg2, hg3⟩ := hg (by omega)
   have HO := hid hO
   have HM6 : Hid (Made PG w1 w6) := HM3.out.then_ (hM.low hPr)
   have HGl : Hid (PG ≤ g) := by unfold Hid; omega
   have HP6 : Hid (PG ≤ w6.heap.size) := Nat.le_trans hPr hM.1.size
   have HRB := hid (creadbatch_c (c := c) HO.out.by_ HEN.out (count_lt j j) (by omega))
   have HCt := hid (counted j j (by omega) (by omega))
   have HFr := hid hg3
   have HGs := hid hg2
   clear hO hM hg1 hg2 hg3 hc
   go_wp2_with fail
   refine HRB.out.mono ?_
   rintro e w7 ⟨x, er, rfl, hM7, hcs⟩
   have HO7 := hid (HO.out.kept hM7)
   have HM7 : Hid (Made PG w1 w7) := HM6.out.then_ (hM7.low HP6.out)
   have z7 : w7.frozen? ⟨g, 0, none⟩ = false := (hM7.2 _).trans (HFr.out 0)
   have l7 : g < w7.heap.size := Nat.lt_of_lt_of_le HGs.out hM7.1.size
   obtain ⟨_, _, eB, hB7⟩ := HO7.out.by_ ln1
   cases eB
   have c70 := hB7 0 ln1
   obtain ⟨y0, ey0⟩ : ∃ y, gl (nb 2 (j : Nat) ++ pulls j) 0 = y := ⟨_, rfl⟩
   rw [ey0, Nat.zero_add] at c70
   have HO8 : Hid (OB (w7.setCell ⟨g, 0, none⟩ (.int .u8 (m : Nat))) wr.heap.size (.slice (some ⟨g, 0, none⟩) n c) n (gl (nb 2 (m : Nat) ++ pulls j))) := (HO7.out.set ln1 m).congr fun i _ => set_count j m (pulls j) (by omega) (by omega) i
   have HM8 : Hid (Made PG w1 (w7.setCell ⟨g, 0, none⟩ (.int .u8 (m : Nat)))) := HM7.out.put (p := ⟨g, 0, none⟩) HGl.out _
   have e8 : (w7.setCell ⟨g, 0, none⟩ (.int .u8 (m : Nat))).heap.size = w7.heap.size := by simp [World.setCell]
   have HP8 : Hid (PG ≤ (w7.setCell ⟨g, 0, none⟩ (.int .u8 (m : Nat))).heap.size) := by unfold Hid; rw [e8]; have := HGl.out; omega
   clear e8
   have HL8 : Hid ((nb 2 (m : Nat) ++ pulls j).length = n) := by unfold Hid; rw [← HEN.out, List.length_append, List.length_append, nb_len, nb_len]
   have HRB2 := hid (creadbatch_c (c := c) HO8.out.by_ HL8.out (count_lt m j) (by omega))
   have HCt2 := hid (counted j m (by omega) (by omega))
   clear hM7 hB7 ey0
   have hdt : (t == 0) = decide (t = 0) := by by_cases h : t = 0 <;> simp [h]
   by_cases hj : j ≤ 64
   case pos =>
    have hjd : decide ((j : Int) ≤ 64) = true := decide_eq_true (by omega)
    rcases hcs with ⟨hok, rfl, ao', c', L, rfl, hL, hmap⟩ | ⟨hno, rfl, rfl⟩
    case inr => exact absurd (HCt.out.1.2 ⟨trivial, hj⟩) hno
    have eL : L.length = j := by rw [← List.length_map (f := bare), hmap]; exact HCt.out.2 trivial hj
    rw [eL]
    have hnej : ((j : Int) != (j : Int)) = false := by simp
    clear hok hL hmap eL
    by_cases ht : t = 0
    ·have ht0 : (t == 0) = true := by rw [hdt]; exact decide_eq_true ht
     have HT0 := hid ht
     clear ht hdt
     go_wp2_with fail
     refine HRB2.out.mono ?_
     rintro e w9 ⟨x, er, rfl, hM9, hcs⟩
     have HM9 : Hid (Made w.heap.size w w9) := HM1.out.then_ ((HM8.out.then_ (hM9.low HP8.out)).low (by have := HM1.out.1.size; have := HPG.out; omega))
     clear hM9
     rcases hcs with ⟨hok, rfl, ao', c', L, rfl, hL, hmap⟩ | ⟨hno, rfl, rfl⟩
     case inr => exact absurd (HCt2.out.1.2 ⟨HT.out.1 HT0.out, hj⟩) hno
     clear hok hL hmap
     go_wp2_with fail
     go_ret
     exact ⟨rfl, HM9.out⟩
    ·have ht0 : (t == 0) = false := by rw [hdt]; exact decide_eq_false ht
     have HT0 := hid ht
     clear ht hdt
     go_wp2_with fail
     refine HRB2.out.mono ?_
     rintro e w9 ⟨x, er, rfl, hM9, hcs⟩
     have HM9 : Hid (Made w.heap.size w w9) := HM1.out.then_ ((HM8.out.then_ (hM9.low HP8.out)).low (by have := HM1.out.1.size; have := HPG.out; omega))
     clear hM9
     rcases hcs with ⟨hok, rfl, ao', c', L, rfl, hL, hmap⟩ | ⟨hno, rfl, rfl⟩
     case inl => exact absurd (HT.out.2 (HCt2.out.1.1 hok).1) HT0.out
     clear hno
     go_wp2_with fail
     go_ret
     exact ⟨rfl, HM9.out⟩
   case neg =>
    have hjd : decide ((j : Int) ≤ 64) = false := decide_eq_false (by omega)
    rcases hcs with ⟨hok, rfl, ao', c', L, rfl, hL, hmap⟩ | ⟨hno, rfl, rfl⟩
    case inl => exact absurd (HCt.out.1.1 hok).2 hj
    clear hno
    by_cases ht : t = 0
    ·have ht0 : (t == 0) = true := by rw [hdt]; exact decide_eq_true ht
     have HT0 := hid ht
     clear ht hdt
     go_wp2_with fail
     refine HRB2.out.mono ?_
     rintro e w9 ⟨x, er, rfl, hM9, hcs⟩
     have HM9 : Hid (Made w.heap.size w w9) := HM1.out.then_ ((HM8.out.then_ (hM9.low HP8.out)).low (by have := HM1.out.1.size; have := HPG.out; omega))
     clear hM9
     rcases hcs with ⟨hok, rfl, ao', c', L, rfl, hL, hmap⟩ | ⟨hno, rfl, rfl⟩
     case inl => exact absurd (HCt2.out.1.1 hok).2 hj
     clear hno
     go_wp2_with fail
     go_ret
     exact ⟨rfl, HM9.out⟩
    ·have ht0 : (t == 0) = false := by rw [hdt]; exact decide_eq_false ht
     have HT0 := hid ht
     clear ht hdt
     go_wp2_with fail
     refine HRB2.out.mono ?_
     rintro e w9 ⟨x, er, rfl, hM9, hcs⟩
     have HM9 : Hid (Made w.heap.size w w9) := HM1.out.then_ ((HM8.out.then_ (hM9.low HP8.out)).low (by have := HM1.out.1.size; have := HPG.out; omega))
     clear hM9
     rcases hcs with ⟨hok, rfl, ao', c', L, rfl, hL, hmap⟩ | ⟨hno, rfl, rfl⟩
     case inl => exact absurd (HT.out.2 (HCt2.out.1.1 hok).1) HT0.out
     clear hno
     go_wp2_with fail
     go_ret
     exact ⟨rfl, HM9.out⟩
theorem ccounts_i {a r : Int} {w : World} (h0 : (Lit.int .u8 a).wf = true) (h1 : (Lit.int .i8 r).wf = true) :
  Calls Tryz.prog 6 #[.int .u8 a, .int .i8 r] w fun e w' => e = .returned (.bool true) ∧ Made w.heap.size w w' := by
 have b0 := bounds_u8 h0
 have b1 := bounds_i8 h1
 exact ccounts_walk (by omega) (by omega) (by omega) (by omega)
end Go.Proofs.YtgdcphmmehedoaaGreat.Fx