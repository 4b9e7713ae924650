/- MassBodies: the statements' own area and round of a seed's shape; the walk. -/
import Derived.Test.YtahbnbaldoblaaaMassL
import Derived.WalkLawsBesides
namespace Go.Proofs.Ytahbnbaldoblaaa.Fx
open Go.ChangeShapes Go.WideShapes Go.ChangeAt Go.RowKit
set_option linter.unusedVariables false

/-- the same by the statements' own area and round -/
structure SaysL (w : World) (K R : Int) (s : Value) (A B : Int) : Prop where
  area : ∀ v, Below w.heap.size w v → Calls Try.prog 11 #[shapeV K R s] v fun e w' => e = .returned (.int .i64 A) ∧ Below v.heap.size v w'
  round : ∀ v, Below w.heap.size w v → Calls Try.prog 12 #[shapeV K R s] v fun e w' => e = .returned (.int .i64 B) ∧ Below v.heap.size v w'
theorem SaysL.on {w v : World} {K R : Int} {s : Value} {A B : Int} (h : SaysL w K R s A B) (k : Below w.heap.size w v) : SaysL v K R s A B where
  area u hu := h.area u (k.trans (hu.mono k.size))
  round u hu := h.round u (k.trans (hu.mono k.size))
theorem saysL_disc (R : Int) (w : World) (hR : I64 R) : SaysL w 1 R (.slice none 0 0) (areaC R) (roundC R) where
  area v _ := (larea_circle R _ none 0 0 v hR rfl).mono fun _ _ ⟨he, hm⟩ => ⟨he, hm.1⟩
  round v _ := (lround_circle R _ none 0 0 v hR rfl).mono fun _ _ ⟨he, hm⟩ => ⟨he, hm.1⟩
theorem saysL_poly {b off n cap : Nat} {f : Cs} {w : World} (h0 : 0 < n) (h8 : n ≤ 8) (hP : Pts w b off n f) (hi : Cin f n) : SaysL w 2 0 (.slice (some ⟨b, off, none⟩) n cap) (sumT areaT f n n) (sumT roundT f n n) where
  area v k := (larea_is 2 0 b off n cap f v (by decide) h0 h8 (pts_below h0 hP k) hi).mono fun _ _ ⟨he, hm⟩ => ⟨he, hm.1⟩
  round v k := (lround_is 2 0 b off n cap f v (by decide) h0 h8 (pts_below h0 hP k) hi).mono fun _ _ ⟨he, hm⟩ => ⟨he, hm.1⟩
theorem seed_saysL (K N S T : Int) (w : World) : Calls Try.prog 8 #[seedV K N S T] w fun e w' => ∃ K R ao n cap A B, e = .returned (shapeV K R (.slice ao n cap)) ∧ Says w' K R (.slice ao n cap) A B ∧ SaysL w' K R (.slice ao n cap) A B ∧ I64 A ∧ I64 B ∧ Made w.heap.size w w' := by
  refine (seed_full K N S T w).mono ?_
  rintro e w' ⟨⟨R, r0, r1, rfl⟩ | ⟨g, c, n, x, y, k, gr, rd, rfl, hg, hrow⟩, hm⟩
  · have hR : I64 R := by unfold I64; omega
    exact ⟨1, R, none, 0, 0, _, _, rfl, says_disc R w' hR, saysL_disc R w' hR, i64_mul _ _, i64_div _ _, hm⟩
  · have h0 : 0 < n := by have := gr.n0; omega
    exact ⟨2, 0, some ⟨g, 0, none⟩, n, c, _, _, rfl, says_poly h0 gr.n1 hrow.pts (grid_i64 gr), saysL_poly h0 gr.n1 hrow.pts (grid_i64 gr), sumT_i64 _ _ _ _, sumT_i64 _ _ _ _, hm⟩

set_option maxRecDepth 100000 in
set_option maxHeartbeats 4000000 in
theorem mbodies_none (a b c d dn : Int) (w : World) (hd : dn ≤ 0) (id_ : I64 dn) :
    Calls Try.prog 3 #[seedV a b c d, .int .i64 dn] w fun e w' => e = .returned (.bool true) ∧ Below w.heap.size w w' := by
  have MS := hid mass_says
  have hle : decide (dn ≤ 0) = true := by simpa using hd
  clear hd
  go_enter Try.func3, Try.ntmps3
  go_wp2_with fail
  refine (fit_is MS.out _).mono ?_
  rintro e w1 ⟨rfl, k1⟩
  have r0 := Below.reads k1 (p := ⟨w.heap.size, 0, none⟩) (x := .int .i64 a) (by go_simp)
  have r1 := Below.reads k1 (p := ⟨w.heap.size, 1, none⟩) (x := .int .i64 b) (by go_simp)
  have r2 := Below.reads k1 (p := ⟨w.heap.size, 2, none⟩) (x := .int .i64 c) (by go_simp)
  have r3 := Below.reads k1 (p := ⟨w.heap.size, 3, none⟩) (x := .int .i64 d) (by go_simp)
  have K1 : Hid (Below w.heap.size w w1) := ((Below.refl _ w).alloc (Nat.le_refl _) _).trans (k1.mono (by simp))
  clear k1
  go_wp2_with fail
  refine (seed_saysL a b c d _).mono ?_
  rintro e w2 ⟨K, R, ao, n, cap, A, B, rfl, hs, hl, iA, iB, hm⟩
  have K2 : Hid (Below w.heap.size w w2) := K1.out.trans (hm.1.mono K1.out.size)
  have HS := hid hs
  have HL := hid hl
  clear hs hl hm
  go_wp2_with fail
  obtain ⟨W, eW⟩ : ∃ W, W = w2.alloc (.cells #[.int .i64 K, .int .i64 R, .slice ao n cap] 28) := ⟨_, rfl⟩
  have kW : Below w2.heap.size w2 W := by rw [eW]; exact (Below.refl _ _).alloc (Nat.le_refl _) _
  have hT : Has W w2.heap.size 28 #[.int .i64 K, .int .i64 R, .slice ao n cap] := by rw [eW]; exact has_new _ _ _
  have HS := hid (HS.out.on kW)
  have HL := hid (HL.out.on kW)
  have KW : Hid (Below w.heap.size w W) := K2.out.trans (kW.mono K2.out.size)
  rw [← eW]
  have s0 := hT.at_ 0
  have s1 := hT.at_ 1
  have s2 := hT.at_ 2
  have HT := hid hT
  clear eW kW hT
  go_wp2_with fail
  refine (HS.out.of dn W id_ (Below.refl _ _)).mono ?_
  rintro e w3 ⟨rfl, k3⟩
  have EO := hid (show massOf dn A B = massV 0 0 0 0 by unfold massOf; rw [if_pos (by simpa using hle)])
  rw [EO.out]
  have K3 : Hid (Below w.heap.size w w3) := KW.out.trans (k3.mono KW.out.size)
  clear k3
  go_wp2_with fail
  go_ret
  exact ⟨rfl, K3.out.alloc K3.out.size _⟩

set_option maxRecDepth 100000 in
set_option maxHeartbeats 4000000 in
theorem mbodies_some (a b c d dn : Int) (w : World) (hd : 0 < dn) (id_ : I64 dn) :
    Calls Try.prog 3 #[seedV a b c d, .int .i64 dn] w fun e w' => e = .returned (.bool true) ∧ Below w.heap.size w w' := by
  have MS := hid mass_says
  have hle : decide (dn ≤ 0) = false := by simp; omega
  clear hd
  go_enter Try.func3, Try.ntmps3
  go_wp2_with fail
  refine (fit_is MS.out _).mono ?_
  rintro e w1 ⟨rfl, k1⟩
  have r0 := Below.reads k1 (p := ⟨w.heap.size, 0, none⟩) (x := .int .i64 a) (by go_simp)
  have r1 := Below.reads k1 (p := ⟨w.heap.size, 1, none⟩) (x := .int .i64 b) (by go_simp)
  have r2 := Below.reads k1 (p := ⟨w.heap.size, 2, none⟩) (x := .int .i64 c) (by go_simp)
  have r3 := Below.reads k1 (p := ⟨w.heap.size, 3, none⟩) (x := .int .i64 d) (by go_simp)
  have K1 : Hid (Below w.heap.size w w1) := ((Below.refl _ w).alloc (Nat.le_refl _) _).trans (k1.mono (by simp))
  clear k1
  go_wp2_with fail
  refine (seed_saysL a b c d _).mono ?_
  rintro e w2 ⟨K, R, ao, n, cap, A, B, rfl, hs, hl, iA, iB, hm⟩
  have K2 : Hid (Below w.heap.size w w2) := K1.out.trans (hm.1.mono K1.out.size)
  have HS := hid hs
  have HL := hid hl
  clear hs hl hm
  go_wp2_with fail
  obtain ⟨W, eW⟩ : ∃ W, W = w2.alloc (.cells #[.int .i64 K, .int .i64 R, .slice ao n cap] 28) := ⟨_, rfl⟩
  have kW : Below w2.heap.size w2 W := by rw [eW]; exact (Below.refl _ _).alloc (Nat.le_refl _) _
  have hT : Has W w2.heap.size 28 #[.int .i64 K, .int .i64 R, .slice ao n cap] := by rw [eW]; exact has_new _ _ _
  have HS := hid (HS.out.on kW)
  have HL := hid (HL.out.on kW)
  have KW : Hid (Below w.heap.size w W) := K2.out.trans (kW.mono K2.out.size)
  rw [← eW]
  have s0 := hT.at_ 0
  have s1 := hT.at_ 1
  have s2 := hT.at_ 2
  have HT := hid hT
  clear eW kW hT
  go_wp2_with fail
  refine (HS.out.of dn W id_ (Below.refl _ _)).mono ?_
  rintro e w3 ⟨rfl, k3⟩
  obtain ⟨p, ep⟩ : ∃ p, mulF dn A = p := ⟨_, rfl⟩
  obtain ⟨q, eq⟩ : ∃ q, mulF dn B = q := ⟨_, rfl⟩
  obtain ⟨m, em⟩ : ∃ m, max p 1 = m := ⟨_, rfl⟩
  obtain ⟨i, ei⟩ : ∃ i, max q 1 = i := ⟨_, rfl⟩
  obtain ⟨x, ex⟩ : ∃ x, divF 4294967296 m = x := ⟨_, rfl⟩
  obtain ⟨y, ey⟩ : ∃ y, divF 4294967296 i = y := ⟨_, rfl⟩
  have EO := hid (show massOf dn A B = massV m i x y by unfold massOf; rw [if_neg (by simpa using hle), ep, eq, em, ei, ex, ey])
  have ip : I64 p := by rw [← ep]; exact i64_mul _ _
  have iq : I64 q := by rw [← eq]; exact i64_mul _ _
  have im : I64 m := by unfold I64 at *; omega
  have ii : I64 i := by unfold I64 at *; omega
  have i1 : I64 4294967296 := by unfold I64; omega
  have dm : decide (0 < m) = true := by simp; omega
  have di : decide (0 < i) = true := by simp; omega
  have EP := hid ep
  have EQ := hid eq
  have EX := hid ex
  have EY := hid ey
  clear ep eq ex ey
  rw [EO.out]
  have K3 : Hid (Below w.heap.size w w3) := KW.out.trans (k3.mono KW.out.size)
  have s0 := Below.reads k3 s0
  have s1 := Below.reads k3 s1
  have s2 := Below.reads k3 s2
  have HL := hid (HL.out.on k3)
  clear k3
  go_wp2_with fail
  obtain ⟨V, eV⟩ : ∃ V, V = w3.alloc (.cells #[.int .i64 m, .int .i64 i, .int .i64 x, .int .i64 y] 31) := ⟨_, rfl⟩
  have kV : Below w3.heap.size w3 V := by rw [eV]; exact (Below.refl _ _).alloc (Nat.le_refl _) _
  have hM : Has V w3.heap.size 31 #[.int .i64 m, .int .i64 i, .int .i64 x, .int .i64 y] := by rw [eV]; exact has_new _ _ _
  have s0 := Below.reads kV s0
  have s1 := Below.reads kV s1
  have s2 := Below.reads kV s2
  have HL := hid (HL.out.on kV)
  have KV : Hid (Below w.heap.size w V) := K3.out.trans (kV.mono K3.out.size)
  have HM := hid hM
  rw [← eV]
  clear eV kV hM
  refine reg_below (by kernel_rfl) (by kernel_rfl) ?_
  intro T hT fw hf
  have z0 := hf.reads s0
  have z1 := hf.reads s1
  have z2 := hf.reads s2
  have HA := hid (fun t => hf.below (x := t) (HL.out.area _ (hf.1 t)))
  have HB := hid (fun t => hf.below (x := t) (HL.out.round _ (hf.1 t)))
  repeat (go_big_quiet_step ((first | (go_at_call 11; with_reducible exact HA.out _) | (go_at_call 12; with_reducible exact HB.out _) | (go_at_call 10; with_reducible first | exact hf.same (mul_is _ _ _ _ id_ iA EP.out) | exact hf.same (mul_is _ _ _ _ id_ iB EQ.out)))))
  refine wpQuiet_nil ?_
  intro w4 h4
  have k4 := hf.here h4
  have hM := HM.out.below k4 HM.out.here
  have m0 := hM.at_ 0
  have m1 := hM.at_ 1
  have m2 := hM.at_ 2
  have m3 := hM.at_ 3
  have K4 : Hid (Below w.heap.size w w4) := KV.out.trans (k4.mono KV.out.size)
  clear z0 z1 z2 HA HB hf h4 k4 hM
  go_wp2_with fail
  refine reg_made (by kernel_rfl) (by kernel_rfl) ?_
  intro T hT fw hf
  have z0 := hf.reads m0
  have z1 := hf.reads m1
  have z2 := hf.reads m2
  have z3 := hf.reads m3
  repeat (go_big_quiet_step ((go_at_call 13; with_reducible first | exact hf.drawn (div_is _ _ _ _ i1 im EX.out) | exact hf.drawn (div_is _ _ _ _ i1 ii EY.out))))
  refine wpQuiet_nil ?_
  intro w5 h5
  have k5 := hf.here h5
  go_wp2_with fail
  go_ret
  exact ⟨rfl, K4.out.trans (k5.1.mono K4.out.size)⟩

theorem mbodies_walk (a b c d dn : Int) (w : World) (id_ : I64 dn) :
    Calls Try.prog 3 #[seedV a b c d, .int .i64 dn] w fun e w' => e = .returned (.bool true) ∧ Below w.heap.size w w' := by
  by_cases h : dn ≤ 0
  · exact mbodies_none a b c d dn w h id_
  · exact mbodies_some a b c d dn w (by omega) id_
end Go.Proofs.Ytahbnbaldoblaaa.Fx
