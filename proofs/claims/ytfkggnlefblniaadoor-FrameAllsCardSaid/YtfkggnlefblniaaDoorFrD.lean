/- Layer 16: frame.One; the statements' own numbers. -/
import Derived.Test.YtfkggnlefblniaaDoorFrC
import Derived.Test.YtfkggnlefblniaaDoorCrF
namespace Go.Proofs.YtfkggnlefblniaaDoor.Fx
open Go.ChangeShapes Go.WideShapes Go.ChangeAt Go.RowKit
set_option linter.unusedVariables false

set_option maxRecDepth 100000 in
set_option maxHeartbeats 4000000 in
theorem one_c {n c : Nat} {ao : Option Addr} {g : Nat → Nat} {most : Int} {w : World} (hg : ∀ i, g i < 256) (hT : Tab w) (hB : By w ao n g) (hnc : n ≤ c) (hn : n ≤ 1099511627776) (hm1 : -9223372036854775808 ≤ most) (hm2 : most ≤ 9223372036854775807) :
    Calls Tryd.prog 13 #[.slice ao n c, .int .i64 most] w fun e w' => ∃ a ao' s' c' q, e = .returned (.tuple #[.agg #[.int .i64 a, .slice ao' s' c'], .bool q]) ∧ (q = true ↔ IsRec g n most ∧ sizeF g + 20 = n) ∧ (q = true → a = numF g ∧ s' = sizeF g ∧ s' ≤ c' ∧ OB w' w.heap.size (.slice ao' s' c') s' (payF g)) ∧ Made w.heap.size w w' := by
  obtain ⟨W, eW⟩ : ∃ W, W = w.alloc (.cells #[Value.int .i64 0, Value.slice none 0 0] 28) := ⟨_, rfl⟩
  obtain ⟨G, eG⟩ : ∃ G, w.heap.size = G := ⟨_, rfl⟩
  have M0 : Made w.heap.size w W := by rw [eW]; exact (Made.rfl_ _ _).cells (Nat.le_refl _) _ _
  have H0 : Has W G 28 #[.int .i64 0, .slice none 0 0] := by rw [eW, ← eG]; exact has_new _ _ _
  have HF := hid hg; have HT := hid (hT.kept M0); have HB := hid (hB.kept M0)
  have EG := hid eG
  rw [eG] at M0
  have HM0 := hid M0; have HH0 := hid H0
  have HC := hid (next_c (c := c) (most := most) hg HT.out HB.out hnc hn hm1 hm2)
  clear hg hT hB M0 H0
  go_enter Tryd.func13, Tryd.ntmps13
  go_upto_region 1 with fail
  rw [← eW]
  clear eW
  try rw [eG]
  clear eG
  go_wp2_with fail
  refine HC.out.mono ?_
  rintro e w1 ⟨a, v, k, q, rfl, hq, ht, hf, hM⟩
  have HQ := hid hq
  have HH := hid (HH0.out.stays hM HH0.out.here)
  have HGL : Hid (G < W.heap.size) := HH0.out.here
  have HM := hid (HM0.out.then_ (hM.low (Nat.le_of_lt HGL.out)))
  have HG : Hid (G ≤ G) := Nat.le_refl G
  clear hq hM HT HB HM0 HH0 HC
  cases q with
  | false =>
    obtain ⟨rfl, rfl, rfl⟩ := hf rfl
    have HN : Hid (¬ (IsRec g n most ∧ sizeF g + 20 = n)) := fun h => by have := HQ.out.2 h.1; cases this
    have HH2 := hid (HH.out.more (.cells #[Value.int .i64 0, Value.slice none 0 0] 28))
    have HM2 := hid (HM.out.cells (by have := HM.out.1.size; rwa [EG.out] at this) #[Value.int .i64 0, Value.slice none 0 0] 28)
    have z0 := HH2.out.at_ 0
    have z1 := HH2.out.at_ 1
    have y0 := HH2.out.free 0
    have y1 := HH2.out.free 1
    simp at z0 z1
    clear ht hf HQ HH
    go_wp2_with fail
    refine bodyPost_ret (v := .tuple #[.agg #[.int .i64 0, .slice none 0 0], .bool false]) (by simp [results, Tryd.results13, go_sem, z0, z1]) rfl ?_
    rw [EG.out]
    exact ⟨0, none, 0, 0, false, rfl, ⟨(fun h => by cases h), fun h => absurd h HN.out⟩, (fun h => by cases h), ((HM2.out.put (p := ⟨G, 0, none⟩) HG.out _).put (p := ⟨G, 1, none⟩) HG.out _)⟩
  | true =>
    obtain ⟨ea, ek, ao', c', rfl, hc', hO⟩ := ht rfl
    have HR : Hid (IsRec g n most) := HQ.out.1 rfl
    obtain ⟨s, es⟩ : ∃ s, sizeF g = s := ⟨_, rfl⟩
    rw [es] at ek hc' hO
    have ES := hid es; have EA := hid ea; have EK := hid ek; have HC' := hid hc'; have HO := hid hO
    clear ht hf HQ ea ek hc' hO
    rw [es]
    clear es
    have HH2 := hid (HH.out.more (.cells #[Value.int .i64 a, Value.slice ao' s c'] 28))
    have HM2 := hid (HM.out.cells (by have := HM.out.1.size; rwa [EG.out] at this) #[Value.int .i64 a, Value.slice ao' s c'] 28)
    have z0 := HH2.out.at_ 0
    have z1 := HH2.out.at_ 1
    have y0 := HH2.out.free 0
    have y1 := HH2.out.free 1
    simp at z0 z1
    clear HH
    by_cases hkn : k = n
    · have d0 : ((k : Int) != (n : Int)) = false := by simp; omega
      have HKN := hid hkn
      clear hkn
      go_wp2_with fail
      refine bodyPost_ret (v := .tuple #[.agg #[.int .i64 a, .slice ao' s c'], .bool true]) (by simp [results, Tryd.results13, go_sem, z0, z1]) rfl ?_
      rw [EG.out, ES.out]
      exact ⟨a, ao', s, c', true, rfl, ⟨fun _ => ⟨HR.out, by rw [← EK.out]; exact HKN.out⟩, fun _ => rfl⟩, fun _ => ⟨EA.out, rfl, HC'.out, ((((HO.out.kept ((Made.rfl_ _ _).cells (Nat.le_refl _) #[Value.int .i64 a, Value.slice ao' s c'] 28)).else_ (p := ⟨G, 0, none⟩) HGL.out _).else_ (p := ⟨G, 1, none⟩) HGL.out _).low (Nat.le_of_lt HGL.out))⟩, ((HM2.out.put (p := ⟨G, 0, none⟩) HG.out _).put (p := ⟨G, 1, none⟩) HG.out _)⟩
    · have d0 : ((k : Int) != (n : Int)) = true := by simp; omega
      have HN : Hid (¬ (IsRec g n most ∧ s + 20 = n)) := fun h => hkn (by rw [EK.out]; exact h.2)
      clear hkn
      go_wp2_with fail
      refine bodyPost_ret (v := .tuple #[.agg #[.int .i64 0, .slice none 0 0], .bool false]) (by simp [results, Tryd.results13, go_sem, z0, z1]) rfl ?_
      rw [EG.out, ES.out]
      exact ⟨0, none, 0, 0, false, rfl, ⟨(fun h => by cases h), fun h => absurd h HN.out⟩, (fun h => by cases h), ((HM2.out.put (p := ⟨G, 0, none⟩) HG.out _).put (p := ⟨G, 1, none⟩) HG.out _)⟩
/-! ### the statements' own numbers -/
def posF (n : Int) : Int := n % 4611686018427387904
theorem posF_rg (n : Int) : 0 ≤ posF n ∧ posF n < 4611686018427387904 := by unfold posF; omega
set_option maxRecDepth 100000 in
theorem number_c {n : Int} {w : World} : Calls Tryd.prog 9 #[.int .i64 n] w fun e w' => e = .returned (.int .i64 (posF n)) ∧ w = w' := by
  have h : bits .and .i64 n 4611686018427387903 = posF n := cand_low n 62 (by omega)
  go_enter Tryd.func9, Tryd.ntmps9
  go_wp2_with fail
  go_ret
  exact ⟨rfl, rfl⟩
set_option maxRecDepth 100000 in
set_option maxHeartbeats 4000000 in
theorem num_c {m : Nat} {X : Int} {w : World} (hm : m ≤ 8) (hX1 : -9223372036854775808 ≤ X) (hX2 : X ≤ 9223372036854775807) :
    Calls Tryd.prog 20 #[.int .i64 (m : Nat), .int .i64 X] w fun e w' => e = .returned (.string (strB (byteZ X) m)) ∧ Made w.heap.size w w' := by
  have HR := hid (div256_rg X · hX1 hX2)
  go_enter Tryd.func20, Tryd.ntmps20
  go_wp2_with fail
  go_loopg [1, 5, 7] m (fun g x o i wr => ∃ k : Nat, k + g = m ∧ i = .int .i64 (k : Nat) ∧ x = .int .i64 (X / 256 ^ k) ∧ o = .string (strB (byteZ X) k) ∧ Hid (Made w.heap.size w wr))
  case atStart => exact ⟨0, by omega, by first | rfl | trivial, by simp, rfl, Made.rfl_ _ _⟩
  case round =>
    obtain ⟨k, hk, rfl, rfl, rfl, HM⟩ := hrel
    obtain ⟨q, eq⟩ : ∃ q, X / 256 ^ k = q := ⟨_, rfl⟩
    have b1 := (HR.out k).1
    have b2 := (HR.out k).2
    rw [eq] at b1 b2
    have hy := byteZ_is X k eq
    have hz := div256 X k eq
    rw [eq]
    obtain ⟨S, eS⟩ : ∃ S, strB (byteZ X) k = S := ⟨_, rfl⟩
    have lS : S.size = k := by rw [← eS]; exact strB_size _ _
    rw [eS]
    by_cases hlt : k < m
    · obtain ⟨y, ey⟩ : ∃ y, byteZ X k = y := ⟨_, rfl⟩
      obtain ⟨z, ez⟩ : ∃ z, X / 256 ^ (k + 1) = z := ⟨_, rfl⟩
      have EZ := hid ez
      have HS : Hid (strB (byteZ X) (k + 1) = S ++ strB (fun _ => y) 1) := by
        unfold Hid
        rw [strB_next, eS, ey, strB_next]
        show _ = S ++ ByteArray.empty.push _
        rw [push_app]; simp
      rw [ey] at hy
      rw [ez] at hz
      clear ey ez eq eS
      obtain ⟨W, eW⟩ : ∃ W, W = wr.alloc (.cells #[Value.int .u8 (y : Nat)] 5) := ⟨_, rfl⟩
      have M3 : Made wr.heap.size wr W := by rw [eW]; exact (Made.rfl_ _ _).cells (Nat.le_refl _) _ _
      have q3 := conv_by (c := 1) (By.one wr y)
      obtain ⟨Y, eY⟩ : ∃ Y, strB (fun _ => y) 1 = Y := ⟨_, rfl⟩
      have lY : Y.size = 1 := by rw [← eY]; exact strB_size _ _
      rw [eY] at q3 HS
      have hsz : ¬ (9223372036854775807 < S.size + Y.size) := by omega
      have HM3 := hid (HM.out.then_ (M3.low HM.out.1.size))
      rw [eW] at HM3
      have LS := hid lS; have LY := hid lY
      clear eY M3 eW lS lY
      go_wp2_with fail
      go_roundg (m - k - 1)
      case rel => exact ⟨k + 1, by omega, by go_num, by rw [EZ.out], by rw [HS.out], HM3.out⟩
      case measure => omega
    · have e : k = m := by omega
      subst e
      have ES := hid eS
      clear hy hz eq eS
      go_wp2_with fail
      go_ret
      rw [ES.out]
      exact ⟨rfl, HM.out⟩
end Go.Proofs.YtfkggnlefblniaaDoor.Fx
