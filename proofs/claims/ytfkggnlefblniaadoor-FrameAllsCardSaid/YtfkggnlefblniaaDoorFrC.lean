/- Layer 16: frame.Next. -/
import Derived.Test.YtfkggnlefblniaaDoorFrB
namespace Go.Proofs.YtfkggnlefblniaaDoor.Fx
open Go.ChangeShapes Go.WideShapes Go.ChangeAt Go.RowKit
set_option linter.unusedVariables false

theorem OB.else_ {w : World} {base n : Nat} {v : Value} {f : Nat → Nat} (h : OB w base v n f) {p : Addr} (hp : p.block < base) (u : Value) : OB (w.setCell p u) base v n f := by
  refine ⟨h.1, h.2.imp id ?_⟩
  rintro ⟨g, cap, cur, e, hg, hh, r⟩
  exact ⟨g, cap, cur, e, hg, Has.other (t := 5) hh p (by omega) u, r⟩
set_option maxRecDepth 100000 in
set_option maxHeartbeats 4000000 in
theorem next_c {n c : Nat} {ao : Option Addr} {g : Nat → Nat} {most : Int} {w : World} (hg : ∀ i, g i < 256) (hT : Tab w) (hB : By w ao n g) (hnc : n ≤ c) (hn : n ≤ 1099511627776) (hm1 : -9223372036854775808 ≤ most) (hm2 : most ≤ 9223372036854775807) :
    Calls Tryd.prog 12 #[.slice ao n c, .int .i64 most] w fun e w' => ∃ a v k q, e = .returned (.tuple #[.agg #[.int .i64 a, v], .int .i64 (k : Nat), .bool q]) ∧ (q = true ↔ IsRec g n most) ∧ (q = true → a = numF g ∧ k = sizeF g + 20 ∧ ∃ ao' c', v = .slice ao' (sizeF g) c' ∧ sizeF g ≤ c' ∧ OB w' w.heap.size (.slice ao' (sizeF g) c') (sizeF g) (payF g)) ∧ (q = false → a = 0 ∧ k = 0 ∧ v = .slice none 0 0) ∧ Made w.heap.size w w' := by
  obtain ⟨W, eW⟩ : ∃ W, W = w.alloc (.cells #[Value.int .i64 0, Value.slice none 0 0] 28) := ⟨_, rfl⟩
  obtain ⟨G, eG⟩ : ∃ G, w.heap.size = G := ⟨_, rfl⟩
  have M0 : Made w.heap.size w W := by rw [eW]; exact (Made.rfl_ _ _).cells (Nat.le_refl _) _ _
  have H0 : Has W G 28 #[.int .i64 0, .slice none 0 0] := by rw [eW, ← eG]; exact has_new _ _ _
  have HF := hid hg; have HT := hid (hT.kept M0); have HB := hid (hB.kept M0)
  have hs := sizeF_lt hg
  have EG := hid eG
  rw [eG] at M0
  have HM0 := hid M0; have HH0 := hid H0
  clear hg hT hB M0 H0
  go_enter Tryd.func12, Tryd.ntmps12
  go_upto_region 1 with fail
  rw [← eW]
  clear eW
  try rw [eG]
  clear eG
  go_wp2_with fail
  refine (rhead_c HF.out HT.out HB.out hnc hn).mono ?_
  rintro e w1 ⟨a, b, q, rfl, hq, ht, hf, hM⟩
  have HQ := hid hq
  have HH := hid (HH0.out.stays hM HH0.out.here)
  have HM := hid (HM0.out.then_ (hM.low (by have h := HM0.out.1.size; rw [EG.out] at h; exact h)))
  have T1 := hid (HT.out.kept hM)
  have B1 := hid (HB.out.kept hM)
  have HG : Hid (G ≤ G) := Nat.le_refl G
  have z0 := HH.out.at_ 0
  have z1 := HH.out.at_ 1
  have y0 := HH.out.free 0
  have y1 := HH.out.free 1
  simp at z0 z1
  clear hq hM HT HB HM0 HH0
  cases q with
  | false =>
    obtain ⟨rfl, rfl⟩ := hf rfl
    have HN : Hid (¬ IsRec g n most) := fun h => by have := HQ.out.2 ⟨h.1, h.2.1⟩; cases this
    clear ht hf HQ hs
    go_wp2_with fail
    refine bodyPost_ret (v := .tuple #[.agg #[.int .i64 0, .slice none 0 0], .int .i64 0, .bool false]) (by simp [results, Tryd.results12, go_sem, z0, z1]) rfl ?_
    rw [EG.out]
    exact ⟨0, .slice none 0 0, 0, false, rfl, ⟨(fun h => by cases h), fun h => absurd h HN.out⟩, (fun h => by cases h), fun _ => ⟨rfl, rfl, rfl⟩, ((HM.out.put (p := ⟨G, 0, none⟩) HG.out _).put (p := ⟨G, 1, none⟩) HG.out _)⟩
  | true =>
    obtain ⟨ea, eb⟩ := ht rfl
    have H16 : Hid (16 ≤ n ∧ Good g 12) := HQ.out.1 rfl
    obtain ⟨s, es⟩ : ∃ s, sizeF g = s := ⟨_, rfl⟩
    obtain ⟨N, eN⟩ : ∃ N, numF g = N := ⟨_, rfl⟩
    have hN1 : -9223372036854775808 ≤ N := by rw [← eN]; exact (valI_i64 _ (fun i => HF.out _) 8 (by omega)).1
    have hN2 : N ≤ 9223372036854775807 := by rw [← eN]; exact (valI_i64 _ (fun i => HF.out _) 8 (by omega)).2
    rw [es] at ea hs
    rw [eN] at eb
    subst ea eb
    have ES := hid es; have EN := hid eN
    have HI : Hid (IsRec g n most ↔ 0 ≤ b ∧ (s : Int) ≤ most ∧ s + 20 ≤ n ∧ Good (payF g) s) := by
      unfold Hid IsRec
      rw [EN.out, ES.out]
      exact ⟨fun h => h.2.2, fun h => ⟨H16.out.1, H16.out.2, h⟩⟩
    clear ht hf HQ es eN
    obtain ⟨E, eE⟩ : ∃ E, s + 20 = E := ⟨_, rfl⟩
    have e1 : (16 : Int) + (s : Int) + 4 = (E : Int) := by omega
    rw [eE] at HI
    have hE1 : Hid (s + 20 = E) := eE
    have hE2 : E ≤ 8589934592 := by omega
    have hE3 : 20 ≤ E := by omega
    clear eE hs
    by_cases hN : b < 0
    · have HN : Hid (¬ IsRec g n most) := fun h => by have := (HI.out.1 h).1; omega
      have d0 : decide (b < 0) = true := decide_eq_true hN
      clear HI
      go_wp2_with fail
      refine bodyPost_ret (v := .tuple #[.agg #[.int .i64 0, .slice none 0 0], .int .i64 0, .bool false]) (by simp [results, Tryd.results12, go_sem, z0, z1]) rfl ?_
      rw [EG.out]
      exact ⟨0, .slice none 0 0, 0, false, rfl, ⟨(fun h => by cases h), fun h => absurd h HN.out⟩, (fun h => by cases h), fun _ => ⟨rfl, rfl, rfl⟩, ((HM.out.put (p := ⟨G, 0, none⟩) HG.out _).put (p := ⟨G, 1, none⟩) HG.out _)⟩
    · have d0 : decide (b < 0) = false := decide_eq_false hN
      by_cases hs : most < (s : Int)
      · have HN : Hid (¬ IsRec g n most) := fun h => by have := (HI.out.1 h).2.1; omega
        have d1 : decide (most < (s : Int)) = true := decide_eq_true hs
        clear HI
        go_wp2_with fail
        refine bodyPost_ret (v := .tuple #[.agg #[.int .i64 0, .slice none 0 0], .int .i64 0, .bool false]) (by simp [results, Tryd.results12, go_sem, z0, z1]) rfl ?_
        rw [EG.out]
        exact ⟨0, .slice none 0 0, 0, false, rfl, ⟨(fun h => by cases h), fun h => absurd h HN.out⟩, (fun h => by cases h), fun _ => ⟨rfl, rfl, rfl⟩, ((HM.out.put (p := ⟨G, 0, none⟩) HG.out _).put (p := ⟨G, 1, none⟩) HG.out _)⟩
      · have d1 : decide (most < (s : Int)) = false := decide_eq_false hs
        by_cases hl : n < E
        · have HN : Hid (¬ IsRec g n most) := fun h => by have := (HI.out.1 h).2.2.1; omega
          have d2 : decide ((n : Int) < (E : Int)) = true := decide_eq_true (by omega)
          clear HI
          go_wp2_with fail
          refine bodyPost_ret (v := .tuple #[.agg #[.int .i64 0, .slice none 0 0], .int .i64 0, .bool false]) (by simp [results, Tryd.results12, go_sem, z0, z1]) rfl ?_
          rw [EG.out]
          exact ⟨0, .slice none 0 0, 0, false, rfl, ⟨(fun h => by cases h), fun h => absurd h HN.out⟩, (fun h => by cases h), fun _ => ⟨rfl, rfl, rfl⟩, ((HM.out.put (p := ⟨G, 0, none⟩) HG.out _).put (p := ⟨G, 1, none⟩) HG.out _)⟩
        · have d2 : decide ((n : Int) < (E : Int)) = false := decide_eq_false (by omega)
          obtain ⟨B, off, rfl, _⟩ := B1.out (by omega)
          have B2 : Hid (By w1 (some ⟨B, off + 16, none⟩) (E - 16) (payF g)) := (B1.out.drop 16).take (by omega)
          have hEs : E - 16 = s + 4 := by have := hE1.out; omega
          obtain ⟨E2, eE2⟩ : ∃ E2, E - 16 = E2 := ⟨_, rfl⟩
          have e2 : ((E : Int) - 16) = (E2 : Int) := by omega
          rw [eE2] at B2 hEs
          have HE2 := hid hEs
          have h16 : 16 ≤ E := by omega
          have hE2c : E2 ≤ c - 16 := by omega
          have hE24 : 4 ≤ E2 := by omega
          have hE2n : E2 ≤ 1099511627776 := by omega
          have HC := hid (copen_c (c := c - 16) (fun i => HF.out (16 + i)) T1.out B2.out hE24 hE2n hE2c)
          have HI2 : Hid (IsRec g n most ↔ Good (payF g) s) := by
            unfold Hid
            rw [HI.out]
            have := hE1.out
            exact ⟨fun h => h.2.2.2, fun h => ⟨by omega, by omega, by omega, h⟩⟩
          clear HI hEs hE2c
          go_wp2_with fail
          refine HC.out.mono ?_
          rintro e w2 ⟨v, q, rfl, hq, hO, hM⟩
          rw [HE2.out, Nat.add_sub_cancel] at hq hO
          have HQ : Hid (q = true ↔ Good (payF g) s) := hq
          have z0 := hM.reads z0
          have z1 := hM.reads z1
          have y0 : w2.frozen? ⟨G, 0, none⟩ = false := (hM.2 _).trans y0
          have y1 : w2.frozen? ⟨G, 1, none⟩ = false := (hM.2 _).trans y1
          have HL : Hid (G ≤ w1.heap.size) := by have h := HM.out.1.size; rw [EG.out] at h; exact h
          have HH1 : Hid (G < w1.heap.size) := HH.out.here
          have HH := hid (HH.out.stays hM HH.out.here)
          have HM := hid (HM.out.then_ (hM.low HL.out))
          clear hq hM B2 HC
          cases q with
          | false =>
            have HN : Hid (¬ IsRec g n most) := fun h => by have := HQ.out.2 (HI2.out.1 h); cases this
            clear HQ hO HI2
            go_wp2_with fail
            refine bodyPost_ret (v := .tuple #[.agg #[.int .i64 0, .slice none 0 0], .int .i64 0, .bool false]) (by simp [results, Tryd.results12, go_sem, z0, z1]) rfl ?_
            rw [EG.out]
            exact ⟨0, .slice none 0 0, 0, false, rfl, ⟨(fun h => by cases h), fun h => absurd h HN.out⟩, (fun h => by cases h), fun _ => ⟨rfl, rfl, rfl⟩, ((HM.out.put (p := ⟨G, 0, none⟩) HG.out _).put (p := ⟨G, 1, none⟩) HG.out _)⟩
          | true =>
            have HR : Hid (IsRec g n most) := HI2.out.2 (HQ.out.1 rfl)
            obtain ⟨ao2, c2, rfl, hc2, _, _⟩ := (hO rfl).shape
            have HO := hid (hO rfl)
            have HGL : Hid (G < w1.heap.size) := HH1.out
            have HC2 := hid hc2
            clear HQ hO HI2 hc2
            go_wp2_with fail
            refine bodyPost_ret (v := .tuple #[.agg #[.int .i64 b, .slice ao2 s c2], .int .i64 E, .bool true]) (by simp [results, Tryd.results12, go_sem, z0, z1]) rfl ?_
            rw [EG.out, ES.out, EN.out]
            exact ⟨b, .slice ao2 s c2, E, true, rfl, ⟨fun _ => HR.out, fun _ => rfl⟩, fun _ => ⟨rfl, hE1.out.symm, ao2, c2, rfl, HC2.out, ((HO.out.else_ (p := ⟨G, 0, none⟩) HGL.out _).else_ (p := ⟨G, 1, none⟩) HGL.out _).low HL.out⟩, (fun h => by cases h), ((HM.out.put (p := ⟨G, 0, none⟩) HG.out _).put (p := ⟨G, 1, none⟩) HG.out _)⟩
end Go.Proofs.YtfkggnlefblniaaDoor.Fx
