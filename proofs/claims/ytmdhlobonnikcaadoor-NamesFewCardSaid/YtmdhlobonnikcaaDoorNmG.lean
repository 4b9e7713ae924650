/- The walk of NamesFew. -/
import Derived.Test.YtmdhlobonnikcaaDoorNmE
import Derived.Laws.IdiomStrings
namespace Go.Proofs.YtmdhlobonnikcaaDoor.Fx
open Go.ChangeShapes Go.WideShapes Go.ChangeAt Go.RowKit
set_option linter.unusedVariables false

/-- a row of bytes whose end is marked -/
def Hm (w : World) (g lo : Nat) (cs : Array Value) : Prop := w.heap[g]? = some (.cells cs 5 (lo, lo + 1))
theorem Hm.at_ {w : World} {g lo : Nat} {cs : Array Value} (h : Hm w g lo cs) (i : Nat) : w.cell? ⟨g, i, none⟩ = cs[i]? := cell_of_row w g i cs _ _ h
theorem Hm.free {w : World} {g lo : Nat} {cs : Array Value} (h : Hm w g lo cs) {i : Nat} (hi : i < lo) : w.frozen? ⟨g, i, none⟩ = false := by
  unfold Hm at h
  simp [World.frozen?, h]
  omega
theorem Hm.put {w : World} {g lo : Nat} {cs : Array Value} (h : Hm w g lo cs) (i : Nat) (u : Value) : Hm (w.setCell ⟨g, i, none⟩ u) g lo (cs.setIfInBounds i u) := by
  unfold Hm at h ⊢
  simp [World.setCell, Array.getElem?_modify, h]
/-- []byte(s): a new row -/
theorem bytes_of (w : World) (n : Nat) {f : Nat → Nat} (hf : ∀ i, f i < 256) : ∃ c W cs, (convert 9 38 (.string (strB f n))).run Tryd.prog w = .ok (.slice (some ⟨w.heap.size, 0, none⟩) n c) W ∧ n ≤ c ∧ n ≤ cs.size ∧ Hm W w.heap.size cs.size cs ∧ (∀ i, i < n → cs[i]? = some (.int .u8 (f i : Nat))) ∧ Below w.heap.size w W := by
  have h := run_bytes_of_string (P := Tryd.prog) w 9 38 5 (strB f n) Tryd.underlying9 Tryd.underlying38 Tryd.underlying5
  rw [strB_size] at h
  have hs : (strB f n).data.size = n := strB_size f n
  refine ⟨_, _, bytesRow (strB f n) (grownCap w n 0 5), h, grownCap_ge w n 0 5, ?_, ?_, fun i hi => ?_, (⟨rfl, rfl, rfl, Nat.le_refl _, fun _ _ => rfl⟩ : Below w.heap.size w w.drew).trans (below_new w.drew _)⟩
  · unfold bytesRow
    rw [Array.size_append, Array.size_map, hs]
    omega
  · show (w.heap.push _)[w.heap.size]? = _
    simp
  · unfold bytesRow
    rw [Array.getElem?_append_left (by simp [hs]; exact hi), Array.getElem?_map]
    have e : (strB f n).data[i]? = some (UInt8.ofNat (f i)) := by
      rw [← Array.getElem?_toList, strB_list, List.getElem?_map, List.getElem?_range hi]
      rfl
    rw [e]
    have := hf i
    simp [UInt8.toNat_ofNat']
    omega
theorem nand255 (x : Int) : bits .and .i64 x 255 = x % 256 := by
  rw [show (255 : Int) = 2 ^ 8 - 1 from by decide, cand_low _ 8 (by omega)]
  rfl
/-- a sign turned -/
def turnN (n k v : Nat) (i : Nat) : Nat := if i = k then v else nmF 106 n i
theorem turnN_lt {n k v : Nat} (hv : v < 256) (i : Nat) : turnN n k v i < 256 := by
  unfold turnN
  split
  · exact hv
  · exact nmF_lt (by decide) _ _
set_option maxRecDepth 100000 in
set_option maxHeartbeats 8000000 in
theorem namesfew_walk {n at_ : Int} {v : Nat} {w : World} (hT : TabN w) (hn : -9223372036854775808 ≤ n ∧ n ≤ 9223372036854775807) (hv : v < 256) :
    Calls Tryd.prog 6 #[.int .i64 n, .int .i64 at_, .int .u8 (v : Nat)] w fun e w' => e = .returned (.bool true) ∧ Below w.heap.size w w' := by
  have HT := hid hT
  have hn1 := hn.1; have hn2 := hn.2
  clear hT hn
  go_enter Tryd.func6, Tryd.ntmps6
  go_wp2_with fail
  refine (fit_c HT.out).mono ?_
  rintro e w1 ⟨rfl, hM⟩
  have HM := hid hM
  have HT1 := hid (HT.out.bel hM.1)
  clear hM HT
  go_wp2_with fail
  refine (may_c hn1 hn2).mono ?_
  rintro e w2 ⟨rfl, rfl⟩
  have la := mayN_le n
  obtain ⟨a, ea⟩ : ∃ a, mayN n = a := ⟨_, rfl⟩
  rw [ea] at la ⊢
  clear ea hn1 hn2
  go_wp2_with fail
  refine (segment_c (N := a) (by omega) HT1.out).mono ?_
  rintro e w2 ⟨rfl, hM⟩
  have HM2 := hid (HM.out.then_ (hM.low HM.out.1.size))
  have HT2 := hid (HT1.out.bel hM.1)
  clear hM HM HT1
  obtain ⟨cc, W, cs, hr, hcc, hcs, HH, hc, hB⟩ := bytes_of w2 17 (nmF_lt (show 106 < 256 by omega) a)
  rw [show strB (nmF 106 a) 17 = nmB 106 a from rfl] at hr
  have HH := hid HH
  have HC := hid hc
  have HB := hid (HM2.out.1.trans (hB.mono HM2.out.1.size))
  have HT3 := hid (HT2.out.bel hB)
  have HG : Hid (w.heap.size ≤ w2.heap.size) := HM2.out.1.size
  obtain ⟨G, eG⟩ : ∃ G, w2.heap.size = G := ⟨_, rfl⟩
  have hG0 : 0 < G := by rw [← eG]; exact HT2.out.here
  rw [eG] at hr HH HG
  clear hc hB eG HM2 HT2
  go_upto_region 5 with fail
  obtain ⟨k, ek⟩ : ∃ k, (at_ % 256).toNat % 17 = k := ⟨_, rfl⟩
  have lk : k < 17 := by omega
  have a1 := nand255 at_
  obtain ⟨x, ex⟩ : ∃ x : Nat, at_ % 256 = (x : Int) := ⟨(at_ % 256).toNat, by omega⟩
  rw [ex] at a1 ek
  have k1 : (x : Int).tmod 17 = (k : Int) := by rw [Int.tmod_eq_emod_of_nonneg (by omega)]; omega
  have k2 : (x : Int) % 17 = (k : Int) := by omega
  clear ek ex
  go_upto_region 6 with fail
  obtain ⟨u, eu⟩ : ∃ u, nmF 106 a k = u := ⟨_, rfl⟩
  have c1 := HC.out k lk
  rw [eu] at c1
  have z1 : W.cell? ⟨G, k, none⟩ = some (.int .u8 (u : Nat)) := by rw [HH.out.at_ k]; exact c1
  have f1 := HH.out.free (i := k) (by omega)
  have EU := hid eu
  clear c1 eu
  go_upto_region 8 with fail
  obtain ⟨W2, eW2⟩ : ∃ W2, W2 = W.setCell ⟨G, k, none⟩ (.int .u8 (v : Nat)) := ⟨_, rfl⟩
  have HB2 : Hid (Below w.heap.size w W2) := by unfold Hid; rw [eW2]; exact HB.out.setCell HG.out _
  have HT4 : Hid (TabN W2) := fun i hi => by rw [eW2]; exact cell_else (by show 0 ≠ G; omega) (HT3.out i hi)
  have HY : Hid (By W2 (some ⟨G, 0, none⟩) 17 (turnN a k v)) := fun _ => ⟨G, 0, rfl, fun i hi => by
    have h2 := HH.out.put k (.int .u8 (v : Nat))
    rw [← eW2] at h2
    rw [Nat.zero_add, h2.at_ i, Array.getElem?_setIfInBounds]
    unfold turnN
    by_cases e : k = i
    · subst e
      rw [if_pos rfl, if_pos (by omega), if_pos rfl]
    · rw [if_neg e, if_neg (fun h => e h.symm)]
      exact HC.out i hi⟩
  rw [← eW2]
  have q1 := conv_by (c := cc) HY.out
  have q2 := conv_by (c := cc) (HY.out.take (show k ≤ 17 by omega))
  obtain ⟨T, eT⟩ : ∃ T, strB (turnN a k v) 17 = T := ⟨_, rfl⟩
  obtain ⟨U, eU⟩ : ∃ U, strB (turnN a k v) k = U := ⟨_, rfl⟩
  rw [eT] at q1
  rw [eU] at q2
  have lT : Hid (T.size ≤ maxLen) := by unfold Hid maxLen; rw [← eT, strB_size]; omega
  have lU : Hid (U.size ≤ maxLen) := by unfold Hid maxLen; rw [← eU, strB_size]; omega
  have HU : Hid (∀ d m, U ≠ nmB d m) := fun d m e => by
    have h1 := congrArg ByteArray.size e
    rw [← eU, strB_size, nmB_size] at h1
    omega
  have HS : Hid (u = v → T = nmB 106 a) := fun e => by
    rw [← eT]
    refine (strB_ext (turnN_lt hv) (fun i => nmF_lt (by decide) a i) 17).2 fun i hi => ?_
    unfold turnN
    split
    · rename_i e2; rw [e2, EU.out, e]
    · rfl
  have HD : Hid (T = nmB 106 a → u = v) := fun e => by
    rw [← eT] at e
    have h1 := (strB_ext (turnN_lt hv) (fun i => nmF_lt (by decide) a i) 17).1 e k lk
    unfold turnN at h1
    rw [if_pos rfl, EU.out] at h1
    exact h1.symm
  clear eW2 z1 f1 HY eT eU HH HC EU HT3 HB hr hcs HG
  by_cases huv : u = v
  · have e0 : ((u : Int) == (v : Int)) = true := by simp; omega
    rw [HS.out huv] at q1
    clear huv
    go_wp2_with fail
    refine (parse_of (c := 106) (n := a) ⟨.inr rfl, la⟩ HT4.out).mono ?_
    rintro e w3 ⟨rfl, rfl⟩
    go_wp2_with fail
    go_ret
    exact ⟨rfl, HB2.out⟩
  · have e0 : ((u : Int) == (v : Int)) = false := by simp; omega
    have HN := hid (fun h => huv (HD.out h))
    clear huv
    go_wp2_with fail
    refine (parse_c lT.out HT4.out).mono ?_
    rintro e w3 ⟨⟨c, m, q, rfl, h1, h2⟩, rfl⟩
    have HQ : Hid (q = true → ¬ (c = 106 ∧ m = a)) := fun hq h => by
      have h3 := (h1 hq).2
      rw [h.1, h.2] at h3
      exact HN.out h3
    clear h1 h2
    go_wp2_with fail
    refine (parse_c lU.out HT4.out).mono ?_
    rintro e w3 ⟨⟨c', m', q', rfl, h1, h2⟩, rfl⟩
    cases q' with
    | true => exact absurd (h1 rfl).2 (HU.out _ _)
    | false =>
      clear h1 h2
      cases q with
      | false =>
        go_wp2_with fail
        go_ret
        exact ⟨rfl, HB2.out⟩
      | true =>
        have h3 := HQ.out rfl
        by_cases hc : c = 106
        · subst hc
          have e1 : ((m : Int) != (a : Int)) = true := by simp; omega
          clear h3
          go_wp2_with fail
          go_ret
          exact ⟨rfl, HB2.out⟩
        · have e1 : ((c : Int) != 106) = true := by simp; omega
          clear h3 hc
          go_wp2_with fail
          go_ret
          exact ⟨rfl, HB2.out⟩
theorem namesfew_i {n at_ v : Int} {w : World} (hT : TabN w) (h0 : (Lit.int .i64 n).wf = true) (h2 : (Lit.int .u8 v).wf = true) :
    Calls Tryd.prog 6 #[.int .i64 n, .int .i64 at_, .int .u8 v] w fun e w' => e = .returned (.bool true) ∧ Below w.heap.size w w' := by
  have b2 := bounds_u8 h2
  obtain ⟨x, rfl⟩ : ∃ x : Nat, v = (x : Int) := ⟨v.toNat, by omega⟩
  exact namesfew_walk hT (bd64 h0) (by omega)
end Go.Proofs.YtmdhlobonnikcaaDoor.Fx
