/- The contract of the statements' own 'right'. -/
import Derived.Test.YtekcehhoimhjeaaShapeB
namespace Go.Proofs.Ytekcehhoimhjeaa.Fx
open Go.ChangeShapes Go.WideShapes Go.ChangeAt Go.RowKit
set_option linter.unusedVariables false

set_option maxRecDepth 100000 in
set_option maxHeartbeats 2000000 in
theorem lright_circle (R : Int) (ao : Option Addr) (n cap : Nat) (f : Cs) (w : World) (r : Bool) (hr : r = true ↔ RightP 1 R n f) :
    Calls Try.prog 10 #[shapeV 1 R (.slice ao n cap)] w fun e w' => e = .returned (.bool r) ∧ Made w.heap.size w w' := by
  have HR : Hid (r = decide (n = 0 ∧ 16777216 ≤ R ∧ R ≤ 274877906944)) := by
    unfold Hid
    rw [Bool.eq_iff_iff, hr, decide_eq_true_iff]
    constructor
    · rintro (h | h)
      · exact h.2
      · omega
    · intro h; exact .inl ⟨rfl, h⟩
  clear hr
  by_cases h3 : n = 0
  · subst h3
    by_cases h1 : 16777216 ≤ R
    · by_cases h2 : R ≤ 274877906944
      · have HT : Hid (r = true) := HR.out.trans (decide_eq_true ⟨rfl, h1, h2⟩)
        go_enter Try.func10, Try.ntmps10
        go_wp2_with fail
        go_ret
        exact ⟨by rw [HT.out]; rfl, (Made.rfl_ _ _).cells (Nat.le_refl _) _ _⟩
      · have HT : Hid (r = false) := HR.out.trans (decide_eq_false (fun h => h2 h.2.2))
        go_enter Try.func10, Try.ntmps10
        go_wp2_with fail
        go_ret
        exact ⟨by rw [HT.out]; rfl, (Made.rfl_ _ _).cells (Nat.le_refl _) _ _⟩
    · have HT : Hid (r = false) := HR.out.trans (decide_eq_false (fun h => h1 h.2.1))
      go_enter Try.func10, Try.ntmps10
      go_wp2_with fail
      go_ret
      exact ⟨by rw [HT.out]; rfl, (Made.rfl_ _ _).cells (Nat.le_refl _) _ _⟩
  · have h3' : ((n : Int) == 0) = false := by simpa using h3
    have HT : Hid (r = false) := HR.out.trans (decide_eq_false (fun h => h3 h.1))
    go_enter Try.func10, Try.ntmps10
    go_wp2_with fail
    go_ret
    exact ⟨by rw [HT.out]; rfl, (Made.rfl_ _ _).cells (Nat.le_refl _) _ _⟩

set_option maxRecDepth 100000 in
set_option maxHeartbeats 2000000 in
theorem lright_none (K R : Int) (ao : Option Addr) (n cap : Nat) (f : Cs) (w : World) (h1 : K ≠ 1) (h2 : ¬ (K = 2 ∧ R = 0 ∧ 3 ≤ n ∧ n ≤ 8)) (r : Bool) (hr : r = true ↔ RightP K R n f) :
    Calls Try.prog 10 #[shapeV K R (.slice ao n cap)] w fun e w' => e = .returned (.bool r) ∧ Made w.heap.size w w' := by
  have HR : Hid (r = false) := by
    unfold Hid
    rw [Bool.eq_false_iff]
    intro h
    rcases hr.1 h with h | h
    · exact h1 h.1
    · exact h2 ⟨h.1, h.2.1, h.2.2.1, h.2.2.2.1⟩
  clear hr
  have k1 : (K == 1) = false := by simpa using h1
  by_cases hK : K = 2
  · subst hK
    clear h1 k1
    by_cases hR : R = 0
    · subst hR
      by_cases hn : 3 ≤ n
      · have h8 : ¬ n ≤ 8 := fun h => h2 ⟨rfl, rfl, hn, h⟩
        clear h2
        go_enter Try.func10, Try.ntmps10
        go_wp2_with fail
        go_ret
        exact ⟨by rw [HR.out]; rfl, (Made.rfl_ _ _).cells (Nat.le_refl _) _ _⟩
      · clear h2
        go_enter Try.func10, Try.ntmps10
        go_wp2_with fail
        go_ret
        exact ⟨by rw [HR.out]; rfl, (Made.rfl_ _ _).cells (Nat.le_refl _) _ _⟩
    · have k2 : (R == 0) = false := by simpa using hR
      have k3 : (R != 0) = true := by simpa using hR
      clear h2 hR
      go_enter Try.func10, Try.ntmps10
      go_wp2_with fail
      go_ret
      exact ⟨by rw [HR.out]; rfl, (Made.rfl_ _ _).cells (Nat.le_refl _) _ _⟩
  · have k2 : (K == 2) = false := by simpa using hK
    have k3 : (K != 2) = true := by simpa using hK
    clear h1 h2 hK
    go_enter Try.func10, Try.ntmps10
    go_wp2_with fail
    go_ret
    exact ⟨by rw [HR.out]; rfl, (Made.rfl_ _ _).cells (Nat.le_refl _) _ _⟩

set_option maxRecDepth 100000 in
set_option maxHeartbeats 4000000 in
theorem lright_poly (b off n cap : Nat) (f : Cs) (w : World) (h3 : 3 ≤ n) (h8 : n ≤ 8) (hp : Pts w b off n f) (hi : Cin f n) (r : Bool) (hr : r = true ↔ RightP 2 0 n f) :
    Calls Try.prog 10 #[shapeV 2 0 (.slice (some ⟨b, off, none⟩) n cap)] w fun e w' => e = .returned (.bool r) ∧ Made w.heap.size w w' := by
  have HP := hid hp
  have HI := hid hi
  clear hp hi
  have HR : Hid (r = true ↔ ∀ i, i < n → (NearP (f i) ∧ ∀ j, j < n → j ≠ i → j ≠ (i + 1) % n → 0 < crossF f i ((i + 1) % n) j)) := by
    refine hr.trans ⟨?_, fun h => .inr ⟨rfl, rfl, h3, h8, fun i hi => (h i hi).1, fun i hi => (h i hi).2⟩⟩
    rintro (h | h)
    · omega
    · exact fun i hi => ⟨h.2.2.2.2.1 i hi, h.2.2.2.2.2 i hi⟩
  clear hr
  go_enter Try.func10, Try.ntmps10
  go_wp2_with fail
  obtain ⟨V, eV⟩ : ∃ V, V = w.alloc (.cells #[.int .i64 2, .int .i64 0, .slice (some ⟨b, off, none⟩) n cap] 25) := ⟨_, rfl⟩
  have S2 : Hid (V.cell? ⟨w.heap.size, 2, none⟩ = some (.slice (some ⟨b, off, none⟩) n cap)) := by unfold Hid; rw [eV]; go_simp
  have MV : Hid (Made w.heap.size w V) := by unfold Hid; rw [eV]; exact (Made.rfl_ _ _).cells (Nat.le_refl _) _ _
  have PV : Hid (Pts V b off n f) := HP.out.kept MV.out
  rw [← eV]
  clear eV
  go_loopg [45] n (fun g t wr => ∃ k : Nat, k + g = n ∧ t = .int .i64 k ∧ Hid (∀ i, i < k → (NearP (f i) ∧ ∀ j, j < n → j ≠ i → j ≠ (i + 1) % n → 0 < crossF f i ((i + 1) % n) j)) ∧ Hid (Made V.heap.size V wr))
  case atStart => exact ⟨0, by omega, rfl, fun j hj => absurd hj (by omega), Made.rfl_ _ _⟩
  case round =>
    obtain ⟨k, hk, rfl, HT, HM⟩ := hrel
    have MW : Hid (Made w.heap.size w wr) := MV.out.then_ (HM.out.low MV.out.1.size)
    by_cases hlt : k < n
    · obtain ⟨x, ex⟩ : ∃ x, (f k).1 = x := ⟨_, rfl⟩
      obtain ⟨y, ey⟩ : ∃ y, (f k).2 = y := ⟨_, rfl⟩
      obtain ⟨ix, iy⟩ := HI.out k hlt
      obtain ⟨c0, c1⟩ := PV.out k hlt
      rw [ex] at ix c0
      rw [ey] at iy c1
      have c0 := HM.out.reads c0
      have c1 := HM.out.reads c1
      have s2 := HM.out.reads S2.out
      have hb : b < wr.heap.size := World.block_lt_of_cell? _ _ c0
      have EX := hid ex
      have EY := hid ey
      clear ex ey
      have bad : ¬ ((-274877906944 ≤ x ∧ x ≤ 274877906944) ∧ (-274877906944 ≤ y ∧ y ≤ 274877906944)) → r = false := fun h => by
        refine Bool.eq_false_iff.2 fun hr => h ?_
        have a := (HR.out.1 hr k hlt).1
        have ex := EX.out
        have ey := EY.out
        unfold NearP at a
        rw [ex, ey] at a
        exact a
      have BAD := hid bad
      clear bad
      have emx : ∃ mx, max x y = mx ∧ x ≤ mx ∧ y ≤ mx ∧ (mx = x ∨ mx = y) := ⟨_, rfl, by omega, by omega, by omega⟩
      obtain ⟨mx, emx, mx0, mx1, mx2⟩ := emx
      have emn : ∃ mn, min x y = mn ∧ mn ≤ x ∧ mn ≤ y ∧ (mn = x ∨ mn = y) := ⟨_, rfl, by omega, by omega, by omega⟩
      obtain ⟨mn, emn, mn0, mn1, mn2⟩ := emn
      have MX := hid mx2
      have MN := hid mn2
      clear mx2 mn2
      by_cases hA : 274877906944 < mx
      · have hF : Hid (r = false) := BAD.out (by rcases MX.out with e | e <;> omega)
        go_wp2_with fail
        go_ret
        exact ⟨by rw [hF.out]; rfl, MW.out.cells MW.out.1.size _ _⟩
      by_cases hB : mn < -274877906944
      · have hF : Hid (r = false) := BAD.out (by rcases MN.out with e | e <;> omega)
        go_wp2_with fail
        go_ret
        exact ⟨by rw [hF.out]; rfl, MW.out.cells MW.out.1.size _ _⟩
      have NR : Hid (NearP (f k)) := by
        unfold Hid NearP
        rw [EX.out, EY.out]
        omega
      have hl : (k + 1) % n < n := Nat.mod_lt _ (by omega)
      obtain ⟨l, el⟩ : ∃ l, (k + 1) % n = l := ⟨_, rfl⟩
      rw [el] at hl
      have hm1 : ((k : Int) + 1).tmod (n : Int) = (l : Int) := by
        rw [Int.tmod_eq_emod_of_nonneg (by omega), ← el, Int.natCast_emod, Int.natCast_add]; rfl
      have EL := hid el
      clear el
      obtain ⟨x', ex'⟩ : ∃ x, (f l).1 = x := ⟨_, rfl⟩
      obtain ⟨y', ey'⟩ : ∃ y, (f l).2 = y := ⟨_, rfl⟩
      obtain ⟨ix', iy'⟩ := HI.out l hl
      obtain ⟨d0, d1⟩ := PV.out l hl
      rw [ex'] at ix' d0
      rw [ey'] at iy' d1
      have d0 := HM.out.reads d0
      have d1 := HM.out.reads d1
      have EX' := hid ex'
      have EY' := hid ey'
      clear ex' ey'
      obtain ⟨u, eu⟩ : ∃ u, subF x' x = u := ⟨_, rfl⟩
      obtain ⟨v, ev⟩ : ∃ v, subF y' y = v := ⟨_, rfl⟩
      have iu : I64 u := by rw [← eu]; exact i64_sub _ _
      have iv : I64 v := by rw [← ev]; exact i64_sub _ _
      have EU := hid eu
      have EV := hid ev
      clear eu ev
      go_wp2_with fail
      refine reg_float1 8 105 6 33 #[.int .i64 0, .int .i64 0] _ (by kernel_rfl) (by kernel_rfl) (by kernel_rfl) rfl rfl alc_V ?_
      apply Exists.intro
      refine ⟨?h1, ?h2⟩
      case h1 =>
        intro T hT fw hf
        have b0 := Class.reads hf (cell_more d0)
        have b1 := Class.reads hf (cell_more d1)
        have e2 := Class.reads hf (cell_more s2)
        simp only [List.take_succ_cons, List.take_zero]
        repeat (go_big_quiet_step (fail))
        exact wpQuiet_nil rfl
      intro g w3 k3 hg hh
      have e0 := k3.reads (p := ⟨wr.heap.size, 0, none⟩) (x := .int .i64 x) (by go_simp)
      have e1 := k3.reads (p := ⟨wr.heap.size, 1, none⟩) (x := .int .i64 y) (by go_simp)
      have hg1 : wr.heap.size < g := by simp at hg; omega
      have M3 : Hid (Made V.heap.size V w3) := HM.out.then_ (made_box k3 |>.low HM.out.1.size)
      have hgV : V.heap.size ≤ g := Nat.le_trans HM.out.1.size (Nat.le_of_lt hg1)
      have z0 := hh.at_ 0
      have z1 := hh.at_ 1
      simp at z0 z1
      have zf : ∀ i, w3.frozen? ⟨g, i, none⟩ = false := fun i => hh.free i
      have hgs := hh.here
      have s3 := k3.reads (cell_more s2)
      clear k3 c0 c1 d0 d1 hh hg
      simp only [List.drop_succ_cons, List.drop_zero]
      go_wp2_with fail
      obtain ⟨W0, eW⟩ : ∃ W, W = (w3.setCell ⟨g, 0, none⟩ (.int .i64 x')).setCell ⟨g, 1, none⟩ (.int .i64 y') := ⟨_, rfl⟩
      have f0 : W0.cell? ⟨wr.heap.size, 0, none⟩ = some (.int .i64 x) := by rw [eW]; go_simp
      have f1 : W0.cell? ⟨wr.heap.size, 1, none⟩ = some (.int .i64 y) := by rw [eW]; go_simp
      have g0 : W0.cell? ⟨g, 0, none⟩ = some (.int .i64 x') := by rw [eW]; go_simp
      have g1 : W0.cell? ⟨g, 1, none⟩ = some (.int .i64 y') := by rw [eW]; go_simp
      have M0 : Hid (Made V.heap.size V W0) := by unfold Hid; rw [eW]; exact (M3.out.put (by simpa using hgV) _).put (by simpa using hgV) _
      have P0 : Hid (Pts W0 b off n f) := PV.out.kept (M0.out)
      have SS := hid (M0.out.reads S2.out)
      rw [← eW]
      clear eW z0 z1 zf
      have F0 := hid f0; have F1 := hid f1; have G0 := hid g0; have G1 := hid g1
      clear f0 f1 g0 g1 e0 e1 s2 s3
      go_loopg [75] n (fun g t v2 => ∃ m : Nat, m + g = n ∧ t = .int .i64 m ∧ Hid (∀ j, j < m → j ≠ k → j ≠ (k + 1) % n → 0 < crossF f k ((k + 1) % n) j) ∧ Hid (Made W0.heap.size W0 v2))
      case atStart => exact ⟨0, by omega, rfl, fun j h => absurd h (by omega), Made.rfl_ _ _⟩
      case round =>
        obtain ⟨m, hm, rfl, HI2, HM2⟩ := hrel
        by_cases hmn : m < n
        · by_cases hmk : m = k
          · subst hmk
            have HN : Hid (∀ j, j < m + 1 → j ≠ m → j ≠ (m + 1) % n → 0 < crossF f m ((m + 1) % n) j) := fun j h1 h2 h3 => HI2.out j (by omega) h2 h3
            go_wp2_with fail
            refine reg_made (by kernel_rfl) (by kernel_rfl) ?_
            intro T hT fw hf
            repeat (go_big_quiet_step (fail))
            refine wpQuiet_nil ?_
            intro w4 h4
            have M4 : Hid (Made W0.heap.size W0 w4) := HM2.out.then_ ((hf.here h4).low HM2.out.1.size)
            clear h4 hf
            go_wp2_with fail
            go_roundg (n - (m + 1))
            case rel => exact ⟨m + 1, by omega, by go_num, HN, M4⟩
            case measure => omega
          by_cases hml : m = l
          · subst hml
            have HN : Hid (∀ j, j < m + 1 → j ≠ k → j ≠ (k + 1) % n → 0 < crossF f k ((k + 1) % n) j) := fun j h1 h2 h3 => HI2.out j (by have := EL.out; omega) h2 h3
            have hne : ((m : Int) != (k : Int)) = true := by simpa using fun e => hmk (by omega)
            clear hmk
            go_wp2_with fail
            refine reg_made (by kernel_rfl) (by kernel_rfl) ?_
            intro T hT fw hf
            repeat (go_big_quiet_step (fail))
            refine wpQuiet_nil ?_
            intro w4 h4
            have M4 : Hid (Made W0.heap.size W0 w4) := HM2.out.then_ ((hf.here h4).low HM2.out.1.size)
            clear h4 hf
            go_wp2_with fail
            go_roundg (n - (m + 1))
            case rel => exact ⟨m + 1, by omega, by go_num, HN, M4⟩
            case measure => omega
          have hne : ((m : Int) != (k : Int)) = true := by simpa using fun e => hmk (by omega)
          have hne2 : ((m : Int) != (l : Int)) = true := by simpa using fun e => hml (by omega)
          have HK := hid hmk
          have HL := hid hml
          clear hmk hml
          obtain ⟨X, eX⟩ : ∃ X, (f m).1 = X := ⟨_, rfl⟩
          obtain ⟨Y, eY⟩ : ∃ Y, (f m).2 = Y := ⟨_, rfl⟩
          obtain ⟨iX, iY⟩ := HI.out m hmn
          obtain ⟨c0, c1⟩ := P0.out m hmn
          rw [eX] at iX c0
          rw [eY] at iY c1
          have c0 := HM2.out.reads c0
          have c1 := HM2.out.reads c1
          have f0 := HM2.out.reads F0.out
          have f1 := HM2.out.reads F1.out
          have g0 := HM2.out.reads G0.out
          have g1 := HM2.out.reads G1.out
          have s2 := HM2.out.reads SS.out
          have HX := hid eX
          have HY := hid eY
          clear eX eY
          obtain ⟨P, eP⟩ : ∃ P, subF X x = P := ⟨_, rfl⟩
          obtain ⟨Q, eQ⟩ : ∃ Q, subF Y y = Q := ⟨_, rfl⟩
          have iP : I64 P := by rw [← eP]; exact i64_sub _ _
          have iQ : I64 Q := by rw [← eQ]; exact i64_sub _ _
          have EP := hid eP
          have EQ := hid eQ
          clear eP eQ
          obtain ⟨C, eC⟩ : ∃ C, subF (mulF u Q) (mulF v P) = C := ⟨_, rfl⟩
          have EC := hid eC
          clear eC
          have HC : Hid (crossF f k ((k + 1) % n) m = C) := by
            unfold Hid
            rw [EL.out]
            unfold crossF
            rw [EX.out, EY.out, EX'.out, EY'.out, HX.out, HY.out, EU.out, EV.out, EP.out, EQ.out, EC.out]
          by_cases hpos : C ≤ 0
          · have hF : Hid (r = false) := by
              refine Bool.eq_false_iff.2 fun h => ?_
              have a := (HR.out.1 h k hlt).2 m hmn HK.out (by rw [EL.out]; exact HL.out)
              rw [HC.out] at a
              omega
            go_wp2_with fail
            refine reg_made (by kernel_rfl) (by kernel_rfl) ?_
            intro T hT fw hf
            have a0 := Class.reads hf f0
            have a1 := Class.reads hf f1
            have b0 := Class.reads hf g0
            have b1 := Class.reads hf g1
            have e2 := Class.reads hf s2
            have d0 := Class.reads hf c0
            have d1 := Class.reads hf c1
            repeat (go_big_quiet_step ((first
              | (go_at_call 19; with_reducible exact hf.made (vsub_is _ _ _ _ _ _ _ (by assumption) (by assumption) (by assumption) (by assumption) EU.out EV.out))
              | (go_at_call 19; with_reducible exact hf.made (vsub_is _ _ _ _ _ _ _ (by assumption) (by assumption) (by assumption) (by assumption) EP.out EQ.out))
              | (go_at_call 27; with_reducible exact hf.made (vcross_is _ _ _ _ _ _ (by assumption) (by assumption) (by assumption) (by assumption) EC.out)))))
            refine wpQuiet_nil ?_
            intro w4 h4
            have M4 : Hid (Made W0.heap.size W0 w4) := HM2.out.then_ ((hf.here h4).low HM2.out.1.size)
            clear h4 hf a0 a1 b0 b1 d0 d1 e2
            go_wp2_with fail
            go_ret
            exact ⟨by rw [hF.out]; rfl, MV.out.then_ ((M0.out.then_ (M4.out.low M0.out.1.size)).low MV.out.1.size)⟩
          · have HN : Hid (∀ j, j < m + 1 → j ≠ k → j ≠ (k + 1) % n → 0 < crossF f k ((k + 1) % n) j) := fun j h1 h2 h3 => by
              rcases (show j < m ∨ j = m by omega) with h' | rfl
              · exact HI2.out j h' h2 h3
              · rw [HC.out]; omega
            go_wp2_with fail
            refine reg_made (by kernel_rfl) (by kernel_rfl) ?_
            intro T hT fw hf
            have a0 := Class.reads hf f0
            have a1 := Class.reads hf f1
            have b0 := Class.reads hf g0
            have b1 := Class.reads hf g1
            have e2 := Class.reads hf s2
            have d0 := Class.reads hf c0
            have d1 := Class.reads hf c1
            repeat (go_big_quiet_step ((first
              | (go_at_call 19; with_reducible exact hf.made (vsub_is _ _ _ _ _ _ _ (by assumption) (by assumption) (by assumption) (by assumption) EU.out EV.out))
              | (go_at_call 19; with_reducible exact hf.made (vsub_is _ _ _ _ _ _ _ (by assumption) (by assumption) (by assumption) (by assumption) EP.out EQ.out))
              | (go_at_call 27; with_reducible exact hf.made (vcross_is _ _ _ _ _ _ (by assumption) (by assumption) (by assumption) (by assumption) EC.out)))))
            refine wpQuiet_nil ?_
            intro w4 h4
            have M4 : Hid (Made W0.heap.size W0 w4) := HM2.out.then_ ((hf.here h4).low HM2.out.1.size)
            clear h4 hf a0 a1 b0 b1 d0 d1 e2
            go_wp2_with fail
            go_roundg (n - (m + 1))
            case rel => exact ⟨m + 1, by omega, by go_num, HN, M4⟩
            case measure => omega
        · have HN : Hid (∀ j, j < n → j ≠ k → j ≠ (k + 1) % n → 0 < crossF f k ((k + 1) % n) j) := fun j h1 h2 h3 => HI2.out j (by omega) h2 h3
          go_wp2_with fail
          go_roundg (n - k - 1)
          case rel =>
            refine ⟨k + 1, by omega, by go_num, fun i hi => ?_, M0.out.then_ (HM2.out.low M0.out.1.size)⟩
            rcases (show i < k ∨ i = k by omega) with h | rfl
            · exact HT.out i h
            · exact ⟨NR.out, HN.out⟩
          case measure => omega
    · go_wp2_with fail
      go_ret
      have e : k = n := by omega
      subst e
      exact ⟨by rw [HR.out.2 HT.out]; rfl, MW.out⟩

/-- the statements' own 'right', of whatever shape -/
theorem lright_is (K R : Int) (ao : Option Addr) (n cap : Nat) (f : Cs) (w : World) (hs : Sl w ao n f) (hi : Cin f n) (r : Bool) (hr : r = true ↔ RightP K R n f) :
    Calls Try.prog 10 #[shapeV K R (.slice ao n cap)] w fun e w' => e = .returned (.bool r) ∧ Made w.heap.size w w' := by
  by_cases h1 : K = 1
  · subst h1; exact lright_circle R ao n cap f w r hr
  · by_cases h2 : K = 2 ∧ R = 0 ∧ 3 ≤ n ∧ n ≤ 8
    · obtain ⟨rfl, rfl, h3, h8⟩ := h2
      obtain ⟨b, off, rfl, hp⟩ := hs (by omega)
      exact lright_poly b off n cap f w h3 h8 hp hi r hr
    · exact lright_none K R ao n cap f w h1 h2 r hr
end Go.Proofs.Ytekcehhoimhjeaa.Fx
