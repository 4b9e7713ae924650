/- Contracts of package shape: after, near. -/
import Derived.Test.YtekcehhoimhjeaaVecB
import Derived.Test.YtekcehhoimhjeaaApp
import Derived.Test.YtekcehhoimhjeaaShapeM
import Derived.Deep.LoopGhost
import Derived.LoopN
import Derived.WalkMore
namespace Go.Proofs.Ytekcehhoimhjeaa.Fx
open Go.ChangeShapes Go.WideShapes Go.ChangeAt Go.RowKit
set_option linter.unusedVariables false

/-- all of 64 bits -/
def Cin (f : Cs) (n : Nat) : Prop := ∀ i, i < n → I64 (f i).1 ∧ I64 (f i).2

theorem alc_V {d : Tmp} {ty : TypeId} {ps : String} {af : Array Edge} : Alc Try.prog { dst := some d, op := .alloc 33, type := ty, pos := ps, after := af, guard := none } d 33 #[.int .i64 0, .int .i64 0] :=
  ⟨rfl, rfl, fun a w => by go_simp⟩
theorem vneq_no (x y X Y : Int) (h : ¬ (X = x ∧ Y = y)) (w : World) : (binOp .neq 33 (vecV x y) (vecV X Y)).run Try.prog w = .ok (.bool true) w := by
  by_cases hx : x = X
  · have hy : (y == Y) = false := by simpa using fun e => h ⟨hx.symm, e.symm⟩
    subst hx
    go_simp
  · have hy : (x == X) = false := by simpa using hx
    go_simp

set_option maxRecDepth 100000 in
set_option maxHeartbeats 1000000 in
theorem after_is (b off n cap i k j : Nat) (x y : Int) (w : World) (hn : 0 < n) (h8 : n ≤ 8) (hi : i < 8) (hk : k ≤ 8) (hj : (i + k) % n = j)
    (hx : w.cell? ⟨b, off + j * 2, none⟩ = some (.int .i64 x)) (hy : w.cell? ⟨b, off + j * 2 + 1, none⟩ = some (.int .i64 y)) :
    Calls Try.prog 34 #[.slice (some ⟨b, off, none⟩) n cap, .int .i64 i, .int .i64 k] w fun e w' => e = .returned (vecV x y) ∧ Made w.heap.size w w' := by
  have hjn : j < n := by rw [← hj]; exact Nat.mod_lt _ hn
  have hm : ((i : Int) + (k : Int)).tmod (n : Int) = (j : Int) := by
    rw [Int.tmod_eq_emod_of_nonneg (by omega), ← hj, Int.natCast_emod, Int.natCast_add]
  have H := hid hj
  clear hj
  have hb : b < w.heap.size := World.block_lt_of_cell? _ _ hx
  go_enter Try.func34, Try.ntmps34
  go_wp2_with fail
  refine bodyPost_ret (v := vecV x y) (by simp [results, Try.results34, go_sem]) rfl ⟨rfl, ?_⟩
  exact (Made.rfl_ _ _).cells (Nat.le_refl _) _ _

set_option maxRecDepth 100000 in
set_option maxHeartbeats 1000000 in
theorem near_is (b off n cap : Nat) (f : Cs) (w : World) (h8 : n ≤ 8) (hp : Pts w b off n f) (hi : Cin f n) (r : Bool) (hr : r = true ↔ ∀ i, i < n → NearP (f i)) :
    Calls Try.prog 25 #[.slice (some ⟨b, off, none⟩) n cap] w fun e w' => e = .returned (.bool r) ∧ Made w.heap.size w w' := by
  have HP := hid hp
  have HI := hid hi
  have HR := hid hr
  clear hp hi hr
  have iG : I64 274877906944 := by unfold I64; omega
  go_enter Try.func25, Try.ntmps25
  go_wp2_with fail
  go_loopg [7] n (fun g t wr => ∃ k : Nat, k + g = n ∧ t = .int .i64 k ∧ Hid (∀ j, j < k → NearP (f j)) ∧ Hid (Made w.heap.size w wr))
  case atStart => exact ⟨0, by omega, rfl, fun j hj => absurd hj (by omega), Made.rfl_ _ _⟩
  case round =>
    obtain ⟨k, hk, rfl, HT, HM⟩ := hrel
    by_cases hlt : k < n
    · obtain ⟨x, ex⟩ : ∃ x, (f k).1 = x := ⟨_, rfl⟩
      obtain ⟨y, ey⟩ : ∃ y, (f k).2 = y := ⟨_, rfl⟩
      obtain ⟨ix, iy⟩ := HI.out k hlt
      obtain ⟨c0, c1⟩ := HP.out k hlt
      rw [ex] at ix c0
      rw [ey] at iy c1
      have c0 := HM.out.reads c0
      have c1 := HM.out.reads c1
      have hb : b < wr.heap.size := World.block_lt_of_cell? _ _ c0
      have EX := hid ex
      have EY := hid ey
      clear ex ey
      obtain ⟨X, eX⟩ : ∃ X, bringF x (negF 274877906944) 274877906944 = X := ⟨_, rfl⟩
      obtain ⟨Y, eY⟩ : ∃ Y, bringF y (negF 274877906944) 274877906944 = Y := ⟨_, rfl⟩
      have EX2 := hid eX
      have EY2 := hid eY
      clear eX eY
      by_cases hN : X = x ∧ Y = y
      · obtain ⟨hX, hY⟩ := hN
        subst hX
        subst hY
        go_wp2_with fail
        refine reg_made (by kernel_rfl) (by kernel_rfl) ?_
        intro T hT fw hf
        have x0 := Class.reads hf (p := ⟨wr.heap.size, 0, none⟩) (u := .int .i64 X) (by go_simp)
        have x1 := Class.reads hf (p := ⟨wr.heap.size, 1, none⟩) (u := .int .i64 Y) (by go_simp)
        repeat (go_big_quiet_step ((go_at_call 41; with_reducible exact hf.made (vbring_is _ _ _ _ _ _ (by assumption) (by assumption) (by assumption) EX2.out EY2.out))))
        refine wpQuiet_nil ?_
        intro w3 h3
        have k3 := hf.here h3
        go_wp2_with fail
        go_roundg (n - k - 1)
        case rel =>
          refine ⟨k + 1, by omega, by go_num, fun j hj => ?_, HM.out.then_ (made_box k3 |>.low HM.out.1.size)⟩
          rcases (show j < k ∨ j = k by omega) with h | rfl
          · exact HT.out j h
          · have a := (near_bring ix).1 EX2.out
            have b := (near_bring iy).1 EY2.out
            rw [← EX.out] at a
            rw [← EY.out] at b
            exact ⟨a, b⟩
        case measure => omega
      · have HN := hid hN
        have q := vneq_no x y X Y hN
        clear hN
        go_wp2_with fail
        refine reg_made (by kernel_rfl) (by kernel_rfl) ?_
        intro T hT fw hf
        have x0 := Class.reads hf (p := ⟨wr.heap.size, 0, none⟩) (u := .int .i64 x) (by go_simp)
        have x1 := Class.reads hf (p := ⟨wr.heap.size, 1, none⟩) (u := .int .i64 y) (by go_simp)
        repeat (go_big_quiet_step ((go_at_call 41; with_reducible exact hf.made (vbring_is _ _ _ _ _ _ (by assumption) (by assumption) (by assumption) EX2.out EY2.out))))
        refine wpQuiet_nil ?_
        intro w3 h3
        have k3 := hf.here h3
        go_wp2_with fail
        go_ret
        refine ⟨?_, HM.out.then_ (made_box k3 |>.low HM.out.1.size)⟩
        have hF : r = false := by
          refine Bool.eq_false_iff.2 fun h => HN.out ?_
          have a := HR.out.1 h k hlt
          have ex := EX.out
          have ey := EY.out
          unfold NearP at a
          rw [ex, ey] at a
          exact ⟨EX2.out.symm.trans ((near_bring ix).2 a.1), EY2.out.symm.trans ((near_bring iy).2 a.2)⟩
        rw [hF]; rfl
    · go_wp2_with fail
      go_ret
      have e : k = n := by omega
      subst e
      exact ⟨by rw [HR.out.2 HT.out]; rfl, HM.out⟩

set_option maxRecDepth 100000 in
set_option maxHeartbeats 4000000 in
theorem convex_is (b off n cap : Nat) (f : Cs) (w : World) (h3 : 3 ≤ n) (h8 : n ≤ 8) (hp : Pts w b off n f) (hi : Cin f n) (r : Bool) (hr : r = true ↔ CvxP f n) :
    Calls Try.prog 26 #[.slice (some ⟨b, off, none⟩) n cap] w fun e w' => e = .returned (.bool r) ∧ Made w.heap.size w w' := by
  have HP := hid hp
  have HI := hid hi
  have HR : Hid (r = true ↔ ∀ i, i < n → ∀ on, 2 ≤ on → on < n → 0 < crossF f i ((i + 1) % n) ((i + on) % n)) := hid (hr.trans (cvx_on h3 h8))
  clear hp hi hr
  go_enter Try.func26, Try.ntmps26
  go_wp2_with fail
  go_step3
  go_wp2_with fail
  go_step3
  go_wp2_with fail
  go_loopg [9] n (fun g t wr => ∃ k : Nat, k + g = n ∧ t = .int .i64 k ∧ Hid (∀ i, i < k → ∀ on, 2 ≤ on → on < n → 0 < crossF f i ((i + 1) % n) ((i + on) % n)) ∧ Hid (Made w.heap.size w wr))
  case atStart => exact ⟨0, by omega, rfl, fun j hj => absurd hj (by omega), Made.rfl_ _ _⟩
  case round =>
    obtain ⟨k, hk, rfl, HT, HM⟩ := hrel
    by_cases hlt : k < n
    · obtain ⟨x, ex⟩ : ∃ x, (f k).1 = x := ⟨_, rfl⟩
      obtain ⟨y, ey⟩ : ∃ y, (f k).2 = y := ⟨_, rfl⟩
      obtain ⟨ix, iy⟩ := HI.out k hlt
      obtain ⟨c0, c1⟩ := HP.out k hlt
      rw [ex] at ix c0
      rw [ey] at iy c1
      have c0 := HM.out.reads c0
      have c1 := HM.out.reads c1
      have hb : b < wr.heap.size := World.block_lt_of_cell? _ _ c0
      have EX := hid ex
      have EY := hid ey
      clear ex ey
      have hl : (k + 1) % n < n := Nat.mod_lt _ (by omega)
      obtain ⟨l, el⟩ : ∃ l, (k + 1) % n = l := ⟨_, rfl⟩
      rw [el] at hl
      have EL := hid el
      clear el
      obtain ⟨x', ex'⟩ : ∃ x, (f l).1 = x := ⟨_, rfl⟩
      obtain ⟨y', ey'⟩ : ∃ y, (f l).2 = y := ⟨_, rfl⟩
      obtain ⟨ix', iy'⟩ := HI.out l hl
      obtain ⟨d0, d1⟩ := HP.out l hl
      rw [ex'] at ix' d0
      rw [ey'] at iy' d1
      have d0 := HM.out.reads d0
      have d1 := HM.out.reads d1
      have EX' := hid ex'
      have EY' := hid ey'
      clear ex' ey'
      obtain ⟨u, eu⟩ : ∃ u, subF x' x = u := ⟨_, rfl⟩
      obtain ⟨v, ev⟩ : ∃ v, subF y' y = v := ⟨_, rfl⟩
      have iu : I64 u := by rw [← eu]; exact i64_sub _ _
      have iv : I64 v := by rw [← ev]; exact i64_sub _ _
      have EU := hid eu
      have EV := hid ev
      clear eu ev
      go_wp2_with fail
      refine reg_float1 5 36 5 33 #[.int .i64 0, .int .i64 0] _ (by kernel_rfl) (by kernel_rfl) (by kernel_rfl) rfl rfl alc_V ?_
      apply Exists.intro
      refine ⟨?h1, ?h2⟩
      case h1 =>
        intro T hT fw hf
        have a0 := Class.reads hf (p := ⟨wr.heap.size, 0, none⟩) (u := .int .i64 x) (by go_simp)
        have a1 := Class.reads hf (p := ⟨wr.heap.size, 1, none⟩) (u := .int .i64 y) (by go_simp)
        have b0 := Class.reads hf (p := ⟨b, off + l * 2, none⟩) (u := .int .i64 x') (by go_simp)
        have b1 := Class.reads hf (p := ⟨b, off + l * 2 + 1, none⟩) (u := .int .i64 y') (by go_simp)
        simp only [List.take_succ_cons, List.take_zero]
        repeat (go_big_quiet_step ((first
          | (go_at_call 34; with_reducible exact hf.made (after_is b off n cap k 1 l x' y' _ (by omega) h8 (by omega) (by omega) EL.out (by apply b0) (by apply b1)))
          | (go_at_call 19; with_reducible exact hf.made (vsub_is _ _ _ _ _ _ _ (by assumption) (by assumption) (by assumption) (by assumption) EU.out EV.out)))))
        exact wpQuiet_nil rfl
      intro g w3 k3 hg hh
      have e0 := k3.reads (p := ⟨wr.heap.size, 0, none⟩) (x := .int .i64 x) (by go_simp)
      have e1 := k3.reads (p := ⟨wr.heap.size, 1, none⟩) (x := .int .i64 y) (by go_simp)
      have M3 : Hid (Made w.heap.size w w3) := HM.out.then_ (made_box k3 |>.low HM.out.1.size)
      have hg1 : wr.heap.size < g := by simp at hg; omega
      have hgw : w.heap.size ≤ g := Nat.le_trans HM.out.1.size (Nat.le_of_lt hg1)
      have z0 := hh.at_ 0
      have z1 := hh.at_ 1
      simp at z0 z1
      have zf : ∀ i, w3.frozen? ⟨g, i, none⟩ = false := fun i => hh.free i
      have hgs := hh.here
      clear k3 c0 c1 d0 d1 hh hg
      simp only [List.drop_succ_cons, List.drop_zero]
      go_wp2_with fail
      obtain ⟨W0, eW⟩ : ∃ W, W = (w3.setCell ⟨g, 0, none⟩ (.int .i64 u)).setCell ⟨g, 1, none⟩ (.int .i64 v) := ⟨_, rfl⟩
      have f0 : W0.cell? ⟨wr.heap.size, 0, none⟩ = some (.int .i64 x) := by rw [eW]; go_simp
      have f1 : W0.cell? ⟨wr.heap.size, 1, none⟩ = some (.int .i64 y) := by rw [eW]; go_simp
      have g0 : W0.cell? ⟨g, 0, none⟩ = some (.int .i64 u) := by rw [eW]; go_simp
      have g1 : W0.cell? ⟨g, 1, none⟩ = some (.int .i64 v) := by rw [eW]; go_simp
      have M0 : Hid (Made w.heap.size w W0) := by unfold Hid; rw [eW]; exact (M3.out.put (by simpa using hgw) _).put (by simpa using hgw) _
      have P0 : Hid (Pts W0 b off n f) := HP.out.kept (M0.out)
      rw [← eW]
      clear eW
      have F0 := hid f0; have F1 := hid f1; have G0 := hid g0; have G1 := hid g1
      clear f0 f1 g0 g1 e0 e1
      go_loopg [6] (n - 3) (fun g t v2 => ∃ m : Nat, m + g = n - 1 ∧ 2 ≤ m ∧ t = .int .i64 m ∧ Hid (∀ on, 2 ≤ on → on < m → 0 < crossF f k ((k + 1) % n) ((k + on) % n)) ∧ Hid (Made W0.heap.size W0 v2))
      case atStart => exact ⟨2, by omega, by omega, rfl, fun on h2 h => absurd h (by omega), Made.rfl_ _ _⟩
      case round =>
        obtain ⟨m, hm, hm2, rfl, HI2, HM2⟩ := hrel
        have hj : (k + m) % n < n := Nat.mod_lt _ (by omega)
        obtain ⟨j, ej⟩ : ∃ j, (k + m) % n = j := ⟨_, rfl⟩
        rw [ej] at hj
        have EJ := hid ej
        clear ej
        obtain ⟨X, eX⟩ : ∃ X, (f j).1 = X := ⟨_, rfl⟩
        obtain ⟨Y, eY⟩ : ∃ Y, (f j).2 = Y := ⟨_, rfl⟩
        obtain ⟨iX, iY⟩ := HI.out j hj
        obtain ⟨c0, c1⟩ := P0.out j hj
        rw [eX] at iX c0
        rw [eY] at iY c1
        have c0 := HM2.out.reads c0
        have c1 := HM2.out.reads c1
        have f0 := HM2.out.reads F0.out
        have f1 := HM2.out.reads F1.out
        have g0 := HM2.out.reads G0.out
        have g1 := HM2.out.reads G1.out
        have HX := hid eX
        have HY := hid eY
        clear eX eY
        obtain ⟨P, eP⟩ : ∃ P, subF X x = P := ⟨_, rfl⟩
        obtain ⟨Q, eQ⟩ : ∃ Q, subF Y y = Q := ⟨_, rfl⟩
        have iP : I64 P := by rw [← eP]; exact i64_sub _ _
        have iQ : I64 Q := by rw [← eQ]; exact i64_sub _ _
        have EP := hid eP
        have EQ := hid eQ
        clear eP eQ
        obtain ⟨C, eC⟩ : ∃ C, subF (mulF u Q) (mulF v P) = C := ⟨_, rfl⟩
        have EC := hid eC
        clear eC
        have HC : Hid (crossF f k ((k + 1) % n) ((k + m) % n) = C) := by
          unfold Hid
          rw [EL.out, EJ.out]
          unfold crossF
          rw [EX.out, EY.out, EX'.out, EY'.out, HX.out, HY.out, EU.out, EV.out, EP.out, EQ.out, EC.out]
        by_cases hpos : 0 < C
        · have HN : Hid (∀ on, 2 ≤ on → on < m + 1 → 0 < crossF f k ((k + 1) % n) ((k + on) % n)) := fun on h2 h => by
            rcases (show on < m ∨ on = m by omega) with h' | rfl
            · exact HI2.out on h2 h'
            · rw [HC.out]; exact hpos
          by_cases hlast : m = n - 1
          · have HL := hid hlast
            clear hlast
            go_wp2_with fail
            refine reg_made (by kernel_rfl) (by kernel_rfl) ?_
            intro T hT fw hf
            have a0 := Class.reads hf f0
            have a1 := Class.reads hf f1
            have b0 := Class.reads hf g0
            have b1 := Class.reads hf g1
            have d0 := Class.reads hf c0
            have d1 := Class.reads hf c1
            repeat (go_big_quiet_step ((first
              | (go_at_call 34; with_reducible exact hf.made (after_is b off n cap k m j X Y _ (by omega) h8 (by omega) (by omega) EJ.out (by apply d0) (by apply d1)))
              | (go_at_call 19; with_reducible exact hf.made (vsub_is _ _ _ _ _ _ _ (by assumption) (by assumption) (by assumption) (by assumption) EP.out EQ.out))
              | (go_at_call 27; with_reducible exact hf.made (vcross_is _ _ _ _ _ _ (by assumption) (by assumption) (by assumption) (by assumption) EC.out)))))
            refine wpQuiet_nil ?_
            intro w4 h4
            have M4 : Hid (Made W0.heap.size W0 w4) := HM2.out.then_ ((hf.here h4).low HM2.out.1.size)
            clear h4 hf a0 a1 b0 b1 d0 d1
            have hl1 : (m : Int) = (n : Int) - 1 := by have := HL.out; omega
            go_wp2_with fail
            go_roundg (n - k - 1)
            case rel =>
              refine ⟨k + 1, by omega, by go_num, fun i hi => ?_, M0.out.then_ (M4.out.low M0.out.1.size)⟩
              rcases (show i < k ∨ i = k by omega) with h | rfl
              · exact HT.out i h
              · intro on h2 h3; exact HN.out on h2 (by omega)
            case measure => omega
          · go_wp2_with fail
            refine reg_made (by kernel_rfl) (by kernel_rfl) ?_
            intro T hT fw hf
            have a0 := Class.reads hf f0
            have a1 := Class.reads hf f1
            have b0 := Class.reads hf g0
            have b1 := Class.reads hf g1
            have d0 := Class.reads hf c0
            have d1 := Class.reads hf c1
            repeat (go_big_quiet_step ((first
              | (go_at_call 34; with_reducible exact hf.made (after_is b off n cap k m j X Y _ (by omega) h8 (by omega) (by omega) EJ.out (by apply d0) (by apply d1)))
              | (go_at_call 19; with_reducible exact hf.made (vsub_is _ _ _ _ _ _ _ (by assumption) (by assumption) (by assumption) (by assumption) EP.out EQ.out))
              | (go_at_call 27; with_reducible exact hf.made (vcross_is _ _ _ _ _ _ (by assumption) (by assumption) (by assumption) (by assumption) EC.out)))))
            refine wpQuiet_nil ?_
            intro w4 h4
            have M4 : Hid (Made W0.heap.size W0 w4) := HM2.out.then_ ((hf.here h4).low HM2.out.1.size)
            clear h4 hf a0 a1 b0 b1 d0 d1
            have hl1 : ¬ (m : Int) = (n : Int) - 1 := by omega
            go_wp2_with fail
            go_roundg (n - 1 - (m + 1))
            case rel => exact ⟨m + 1, by omega, by omega, by go_num, HN, M4⟩
            case measure => omega
        · have hF : Hid (r = false) := by
            refine Bool.eq_false_iff.2 fun h => hpos ?_
            have a := HR.out.1 h k hlt m hm2 (by omega)
            rw [HC.out] at a
            exact a
          go_wp2_with fail
          refine reg_made (by kernel_rfl) (by kernel_rfl) ?_
          intro T hT fw hf
          have a0 := Class.reads hf f0
          have a1 := Class.reads hf f1
          have b0 := Class.reads hf g0
          have b1 := Class.reads hf g1
          have d0 := Class.reads hf c0
          have d1 := Class.reads hf c1
          repeat (go_big_quiet_step ((first
            | (go_at_call 34; with_reducible exact hf.made (after_is b off n cap k m j X Y _ (by omega) h8 (by omega) (by omega) EJ.out (by apply d0) (by apply d1)))
            | (go_at_call 19; with_reducible exact hf.made (vsub_is _ _ _ _ _ _ _ (by assumption) (by assumption) (by assumption) (by assumption) EP.out EQ.out))
            | (go_at_call 27; with_reducible exact hf.made (vcross_is _ _ _ _ _ _ (by assumption) (by assumption) (by assumption) (by assumption) EC.out)))))
          refine wpQuiet_nil ?_
          intro w4 h4
          have M4 : Hid (Made W0.heap.size W0 w4) := HM2.out.then_ ((hf.here h4).low HM2.out.1.size)
          clear h4 hf a0 a1 b0 b1 d0 d1
          go_wp2_with fail
          try rw [Exit.noGoto_ret]
          go_ret
          exact ⟨by rw [hF.out]; rfl, M0.out.then_ (M4.out.low M0.out.1.size)⟩
    · go_wp2_with fail
      try rw [Exit.noGoto_ret]
      go_ret
      have e : k = n := by omega
      subst e
      exact ⟨by rw [HR.out.2 HT.out]; rfl, HM.out⟩
end Go.Proofs.Ytekcehhoimhjeaa.Fx
