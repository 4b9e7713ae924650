/- Shapes -/
import Derived.Test.YtfncelifflebbaaGreatV0
import Derived.Test.YtfncelifflebbaaGreatV1
import Derived.Test.YtfncelifflebbaaGreatV4
import Derived.Deep.LoopGhost
import Derived.LoopN
import Derived.WalkMore
import Derived.OwnWalk
import Derived.Lib.SliceRun

/- Contracts of package shape. -/








/- Contracts of package shape: after, near. -/
namespace Go.Proofs.YtfncelifflebbaaGreat.Fx
open Go.ChangeShapes Go.WideShapes Go.ChangeAt Go.RowKit
set_option linter.unusedVariables false

def Cin (f : Cs) (n : Nat) : Prop := ∀ i, i < n → I64 (f i).1 ∧ I64 (f i).2

theorem alc_V {d : Tmp} {ty : TypeId} {ps : String} {af : Array Edge} : Alc Tryz.prog { dst := some d, op := .alloc 24, type := ty, pos := ps, after := af, guard := none } d 24 #[.int .i64 0, .int .i64 0] :=
  ⟨rfl, rfl, fun a w => by go_simp⟩
theorem vneq_no (x y X Y : Int) (h : ¬ (X = x ∧ Y = y)) (w : World) : (binOp .neq 24 (vecV x y) (vecV X Y)).run Tryz.prog w = .ok (.bool true) w := by
  by_cases hx : x = X
  · have hy : (y == Y) = false := by simpa using fun e => h ⟨hx.symm, e.symm⟩
    subst hx
    go_simp
  · have hy : (x == X) = false := by simpa using hx
    go_simp

set_option maxRecDepth 100000 in
set_option maxHeartbeats 1000000 in
theorem after_is (b off n cap i k j : Nat) (x y : Int) (w : World) (hn : 0 < n) (h8 : n ≤ 8) (hi : i < 8) (hk : k ≤ 8) (hj : (i + k) % n = j)
    (hx : w.cell? ⟨b, off + j * 2, none⟩ = some (.int .i64 x)) (hy : w.cell? ⟨b, off + j * 2 + 1, none⟩ = some (.int .i64 y)) :
    Calls Tryz.prog 141 #[.slice (some ⟨b, off, none⟩) n cap, .int .i64 i, .int .i64 k] w fun e w' => e = .returned (vecV x y) ∧ Made w.heap.size w w' := by
  have hjn : j < n := by rw [← hj]; exact Nat.mod_lt _ hn
  have hm : ((i : Int) + (k : Int)).tmod (n : Int) = (j : Int) := by
    rw [Int.tmod_eq_emod_of_nonneg (by omega), ← hj, Int.natCast_emod, Int.natCast_add]
  have H := hid hj
  clear hj
  have hb : b < w.heap.size := World.block_lt_of_cell? _ _ hx
  go_enter Tryz.func141, Tryz.ntmps141
  go_wp2_with fail
  refine bodyPost_ret (v := vecV x y) (by simp [results, Tryz.results141, go_sem]) rfl ⟨rfl, ?_⟩
  exact (Made.rfl_ _ _).cells (Nat.le_refl _) _ _

set_option maxRecDepth 100000 in
set_option maxHeartbeats 1000000 in
theorem near_is (b off n cap : Nat) (f : Cs) (w : World) (h8 : n ≤ 8) (hp : Pts w b off n f) (hi : Cin f n) (r : Bool) (hr : r = true ↔ ∀ i, i < n → NearP (f i)) :
    Calls Tryz.prog 115 #[.slice (some ⟨b, off, none⟩) n cap] w fun e w' => e = .returned (.bool r) ∧ Made w.heap.size w w' := by
  have HP := hid hp
  have HI := hid hi
  have HR := hid hr
  clear hp hi hr
  have iG : I64 274877906944 := by unfold I64; omega
  go_enter Tryz.func115, Tryz.ntmps115
  go_wp2_with fail
  go_loopg [7] n (fun g t wr => ∃ k : Nat, k + g = n ∧ t = .int .i64 k ∧ Hid (∀ j, j < k → NearP (f j)) ∧ Hid (Made w.heap.size w wr))
  case atStart => exact ⟨0, by omega, rfl, fun j hj => absurd hj (by omega), Made.rfl_ _ _⟩
  case round =>
    obtain ⟨k, hk, rfl, HT, HM⟩ := hrel
    by_cases hlt : k < n
    · obtain ⟨x, ex⟩ : ∃ x, (f k).1 = x := ⟨_, rfl⟩
      obtain ⟨y, ey⟩ : ∃ y, (f k).2 = y := ⟨_, rfl⟩
      obtain ⟨ix, iy⟩ := HI.out k hlt
      obtain ⟨c0, c1⟩ := HP.out k hlt
      rw [ex] at ix c0
      rw [ey] at iy c1
      have c0 := HM.out.reads c0
      have c1 := HM.out.reads c1
      have hb : b < wr.heap.size := World.block_lt_of_cell? _ _ c0
      have EX := hid ex
      have EY := hid ey
      clear ex ey
      obtain ⟨X, eX⟩ : ∃ X, bringF x (negF 274877906944) 274877906944 = X := ⟨_, rfl⟩
      obtain ⟨Y, eY⟩ : ∃ Y, bringF y (negF 274877906944) 274877906944 = Y := ⟨_, rfl⟩
      have EX2 := hid eX
      have EY2 := hid eY
      clear eX eY
      by_cases hN : X = x ∧ Y = y
      · obtain ⟨hX, hY⟩ := hN
        subst hX
        subst hY
        go_wp2_with fail
        refine reg_made (by kernel_rfl) (by kernel_rfl) ?_
        intro T hT fw hf
        have x0 := Class.reads hf (p := ⟨wr.heap.size, 0, none⟩) (u := .int .i64 X) (by go_simp)
        have x1 := Class.reads hf (p := ⟨wr.heap.size, 1, none⟩) (u := .int .i64 Y) (by go_simp)
        repeat (go_big_quiet_step ((go_at_call 23; with_reducible exact hf.made (vbring_is _ _ _ _ _ _ (by assumption) (by assumption) (by assumption) EX2.out EY2.out))))
        refine wpQuiet_nil ?_
        intro w3 h3
        have k3 := hf.here h3
        go_wp2_with fail
        go_roundg (n - k - 1)
        case rel =>
          refine ⟨k + 1, by omega, by go_num, fun j hj => ?_, HM.out.then_ (made_box k3 |>.low HM.out.1.size)⟩
          rcases (show j < k ∨ j = k by omega) with h | rfl
          · exact HT.out j h
          · have a := (near_bring ix).1 EX2.out
            have b := (near_bring iy).1 EY2.out
            rw [← EX.out] at a
            rw [← EY.out] at b
            exact ⟨a, b⟩
        case measure => omega
      · have HN := hid hN
        have q := vneq_no x y X Y hN
        clear hN
        go_wp2_with fail
        refine reg_made (by kernel_rfl) (by kernel_rfl) ?_
        intro T hT fw hf
        have x0 := Class.reads hf (p := ⟨wr.heap.size, 0, none⟩) (u := .int .i64 x) (by go_simp)
        have x1 := Class.reads hf (p := ⟨wr.heap.size, 1, none⟩) (u := .int .i64 y) (by go_simp)
        repeat (go_big_quiet_step ((go_at_call 23; with_reducible exact hf.made (vbring_is _ _ _ _ _ _ (by assumption) (by assumption) (by assumption) EX2.out EY2.out))))
        refine wpQuiet_nil ?_
        intro w3 h3
        have k3 := hf.here h3
        go_wp2_with fail
        go_ret
        refine ⟨?_, HM.out.then_ (made_box k3 |>.low HM.out.1.size)⟩
        have hF : r = false := by
          refine Bool.eq_false_iff.2 fun h => HN.out ?_
          have a := HR.out.1 h k hlt
          have ex := EX.out
          have ey := EY.out
          unfold NearP at a
          rw [ex, ey] at a
          exact ⟨EX2.out.symm.trans ((near_bring ix).2 a.1), EY2.out.symm.trans ((near_bring iy).2 a.2)⟩
        rw [hF]; rfl
    · go_wp2_with fail
      go_ret
      have e : k = n := by omega
      subst e
      exact ⟨by rw [HR.out.2 HT.out]; rfl, HM.out⟩

set_option maxRecDepth 100000 in
set_option maxHeartbeats 4000000 in
theorem convex_is (b off n cap : Nat) (f : Cs) (w : World) (h3 : 3 ≤ n) (h8 : n ≤ 8) (hp : Pts w b off n f) (hi : Cin f n) (r : Bool) (hr : r = true ↔ CvxP f n) :
    Calls Tryz.prog 116 #[.slice (some ⟨b, off, none⟩) n cap] w fun e w' => e = .returned (.bool r) ∧ Made w.heap.size w w' := by
  have HP := hid hp
  have HI := hid hi
  have HR : Hid (r = true ↔ ∀ i, i < n → ∀ on, 2 ≤ on → on < n → 0 < crossF f i ((i + 1) % n) ((i + on) % n)) := hid (hr.trans (cvx_on h3 h8))
  clear hp hi hr
  go_enter Tryz.func116, Tryz.ntmps116
  go_wp2_with fail
  go_step3
  go_wp2_with fail
  go_step3
  go_wp2_with fail
  go_loopg [9] n (fun g t wr => ∃ k : Nat, k + g = n ∧ t = .int .i64 k ∧ Hid (∀ i, i < k → ∀ on, 2 ≤ on → on < n → 0 < crossF f i ((i + 1) % n) ((i + on) % n)) ∧ Hid (Made w.heap.size w wr))
  case atStart => exact ⟨0, by omega, rfl, fun j hj => absurd hj (by omega), Made.rfl_ _ _⟩
  case round =>
    obtain ⟨k, hk, rfl, HT, HM⟩ := hrel
    by_cases hlt : k < n
    · obtain ⟨x, ex⟩ : ∃ x, (f k).1 = x := ⟨_, rfl⟩
      obtain ⟨y, ey⟩ : ∃ y, (f k).2 = y := ⟨_, rfl⟩
      obtain ⟨ix, iy⟩ := HI.out k hlt
      obtain ⟨c0, c1⟩ := HP.out k hlt
      rw [ex] at ix c0
      rw [ey] at iy c1
      have c0 := HM.out.reads c0
      have c1 := HM.out.reads c1
      have hb : b < wr.heap.size := World.block_lt_of_cell? _ _ c0
      have EX := hid ex
      have EY := hid ey
      clear ex ey
      have hl : (k + 1) % n < n := Nat.mod_lt _ (by omega)
      obtain ⟨l, el⟩ : ∃ l, (k + 1) % n = l := ⟨_, rfl⟩
      rw [el] at hl
      have EL := hid el
      clear el
      obtain ⟨x', ex'⟩ : ∃ x, (f l).1 = x := ⟨_, rfl⟩
      obtain ⟨y', ey'⟩ : ∃ y, (f l).2 = y := ⟨_, rfl⟩
      obtain ⟨ix', iy'⟩ := HI.out l hl
      obtain ⟨d0, d1⟩ := HP.out l hl
      rw [ex'] at ix' d0
      rw [ey'] at iy' d1
      have d0 := HM.out.reads d0
      have d1 := HM.out.reads d1
      have EX' := hid ex'
      have EY' := hid ey'
      clear ex' ey'
      obtain ⟨u, eu⟩ : ∃ u, subF x' x = u := ⟨_, rfl⟩
      obtain ⟨v, ev⟩ : ∃ v, subF y' y = v := ⟨_, rfl⟩
      have iu : I64 u := by rw [← eu]; exact i64_sub _ _
      have iv : I64 v := by rw [← ev]; exact i64_sub _ _
      have EU := hid eu
      have EV := hid ev
      clear eu ev
      go_wp2_with fail
      refine reg_float1 5 36 5 24 #[.int .i64 0, .int .i64 0] _ (by kernel_rfl) (by kernel_rfl) (by kernel_rfl) rfl rfl alc_V ?_
      apply Exists.intro
      refine ⟨?h1, ?h2⟩
      case h1 =>
        intro T hT fw hf
        have a0 := Class.reads hf (p := ⟨wr.heap.size, 0, none⟩) (u := .int .i64 x) (by go_simp)
        have a1 := Class.reads hf (p := ⟨wr.heap.size, 1, none⟩) (u := .int .i64 y) (by go_simp)
        have b0 := Class.reads hf (p := ⟨b, off + l * 2, none⟩) (u := .int .i64 x') (by go_simp)
        have b1 := Class.reads hf (p := ⟨b, off + l * 2 + 1, none⟩) (u := .int .i64 y') (by go_simp)
        simp only [List.take_succ_cons, List.take_zero]
        repeat (go_big_quiet_step ((first
          | (go_at_call 141; with_reducible exact hf.made (after_is b off n cap k 1 l x' y' _ (by omega) h8 (by omega) (by omega) EL.out (by apply b0) (by apply b1)))
          | (go_at_call 140; with_reducible exact hf.made (vsub_is _ _ _ _ _ _ _ (by assumption) (by assumption) (by assumption) (by assumption) EU.out EV.out)))))
        exact wpQuiet_nil rfl
      intro g w3 k3 hg hh
      have e0 := k3.reads (p := ⟨wr.heap.size, 0, none⟩) (x := .int .i64 x) (by go_simp)
      have e1 := k3.reads (p := ⟨wr.heap.size, 1, none⟩) (x := .int .i64 y) (by go_simp)
      have M3 : Hid (Made w.heap.size w w3) := HM.out.then_ (made_box k3 |>.low HM.out.1.size)
      have hg1 : wr.heap.size < g := by simp at hg; omega
      have hgw : w.heap.size ≤ g := Nat.le_trans HM.out.1.size (Nat.le_of_lt hg1)
      have z0 := hh.at_ 0
      have z1 := hh.at_ 1
      simp at z0 z1
      have zf : ∀ i, w3.frozen? ⟨g, i, none⟩ = false := fun i => hh.free i
      have hgs := hh.here
      clear k3 c0 c1 d0 d1 hh hg
      simp only [List.drop_succ_cons, List.drop_zero]
      go_wp2_with fail
      obtain ⟨W0, eW⟩ : ∃ W, W = (w3.setCell ⟨g, 0, none⟩ (.int .i64 u)).setCell ⟨g, 1, none⟩ (.int .i64 v) := ⟨_, rfl⟩
      have f0 : W0.cell? ⟨wr.heap.size, 0, none⟩ = some (.int .i64 x) := by rw [eW]; go_simp
      have f1 : W0.cell? ⟨wr.heap.size, 1, none⟩ = some (.int .i64 y) := by rw [eW]; go_simp
      have g0 : W0.cell? ⟨g, 0, none⟩ = some (.int .i64 u) := by rw [eW]; go_simp
      have g1 : W0.cell? ⟨g, 1, none⟩ = some (.int .i64 v) := by rw [eW]; go_simp
      have M0 : Hid (Made w.heap.size w W0) := by unfold Hid; rw [eW]; exact (M3.out.put (by simpa using hgw) _).put (by simpa using hgw) _
      have P0 : Hid (Pts W0 b off n f) := HP.out.kept (M0.out)
      rw [← eW]
      clear eW
      have F0 := hid f0; have F1 := hid f1; have G0 := hid g0; have G1 := hid g1
      clear f0 f1 g0 g1 e0 e1
      go_loopg [6] (n - 3) (fun g t v2 => ∃ m : Nat, m + g = n - 1 ∧ 2 ≤ m ∧ t = .int .i64 m ∧ Hid (∀ on, 2 ≤ on → on < m → 0 < crossF f k ((k + 1) % n) ((k + on) % n)) ∧ Hid (Made W0.heap.size W0 v2))
      case atStart => exact ⟨2, by omega, by omega, rfl, fun on h2 h => absurd h (by omega), Made.rfl_ _ _⟩
      case round =>
        obtain ⟨m, hm, hm2, rfl, HI2, HM2⟩ := hrel
        have hj : (k + m) % n < n := Nat.mod_lt _ (by omega)
        obtain ⟨j, ej⟩ : ∃ j, (k + m) % n = j := ⟨_, rfl⟩
        rw [ej] at hj
        have EJ := hid ej
        clear ej
        obtain ⟨X, eX⟩ : ∃ X, (f j).1 = X := ⟨_, rfl⟩
        obtain ⟨Y, eY⟩ : ∃ Y, (f j).2 = Y := ⟨_, rfl⟩
        obtain ⟨iX, iY⟩ := HI.out j hj
        obtain ⟨c0, c1⟩ := P0.out j hj
        rw [eX] at iX c0
        rw [eY] at iY c1
        have c0 := HM2.out.reads c0
        have c1 := HM2.out.reads c1
        have f0 := HM2.out.reads F0.out
        have f1 := HM2.out.reads F1.out
        have g0 := HM2.out.reads G0.out
        have g1 := HM2.out.reads G1.out
        have HX := hid eX
        have HY := hid eY
        clear eX eY
        obtain ⟨P, eP⟩ : ∃ P, subF X x = P := ⟨_, rfl⟩
        obtain ⟨Q, eQ⟩ : ∃ Q, subF Y y = Q := ⟨_, rfl⟩
        have iP : I64 P := by rw [← eP]; exact i64_sub _ _
        have iQ : I64 Q := by rw [← eQ]; exact i64_sub _ _
        have EP := hid eP
        have EQ := hid eQ
        clear eP eQ
        obtain ⟨C, eC⟩ : ∃ C, subF (mulF u Q) (mulF v P) = C := ⟨_, rfl⟩
        have EC := hid eC
        clear eC
        have HC : Hid (crossF f k ((k + 1) % n) ((k + m) % n) = C) := by
          unfold Hid
          rw [EL.out, EJ.out]
          unfold crossF
          rw [EX.out, EY.out, EX'.out, EY'.out, HX.out, HY.out, EU.out, EV.out, EP.out, EQ.out, EC.out]
        by_cases hpos : 0 < C
        · have HN : Hid (∀ on, 2 ≤ on → on < m + 1 → 0 < crossF f k ((k + 1) % n) ((k + on) % n)) := fun on h2 h => by
            rcases (show on < m ∨ on = m by omega) with h' | rfl
            · exact HI2.out on h2 h'
            · rw [HC.out]; exact hpos
          by_cases hlast : m = n - 1
          · have HL := hid hlast
            clear hlast
            go_wp2_with fail
            refine reg_made (by kernel_rfl) (by kernel_rfl) ?_
            intro T hT fw hf
            have a0 := Class.reads hf f0
            have a1 := Class.reads hf f1
            have b0 := Class.reads hf g0
            have b1 := Class.reads hf g1
            have d0 := Class.reads hf c0
            have d1 := Class.reads hf c1
            repeat (go_big_quiet_step ((first
              | (go_at_call 141; with_reducible exact hf.made (after_is b off n cap k m j X Y _ (by omega) h8 (by omega) (by omega) EJ.out (by apply d0) (by apply d1)))
              | (go_at_call 140; with_reducible exact hf.made (vsub_is _ _ _ _ _ _ _ (by assumption) (by assumption) (by assumption) (by assumption) EP.out EQ.out))
              | (go_at_call 95; with_reducible exact hf.made (vcross_is _ _ _ _ _ _ (by assumption) (by assumption) (by assumption) (by assumption) EC.out)))))
            refine wpQuiet_nil ?_
            intro w4 h4
            have M4 : Hid (Made W0.heap.size W0 w4) := HM2.out.then_ ((hf.here h4).low HM2.out.1.size)
            clear h4 hf a0 a1 b0 b1 d0 d1
            have hl1 : (m : Int) = (n : Int) - 1 := by have := HL.out; omega
            go_wp2_with fail
            go_roundg (n - k - 1)
            case rel =>
              refine ⟨k + 1, by omega, by go_num, fun i hi => ?_, M0.out.then_ (M4.out.low M0.out.1.size)⟩
              rcases (show i < k ∨ i = k by omega) with h | rfl
              · exact HT.out i h
              · intro on h2 h3; exact HN.out on h2 (by omega)
            case measure => omega
          · go_wp2_with fail
            refine reg_made (by kernel_rfl) (by kernel_rfl) ?_
            intro T hT fw hf
            have a0 := Class.reads hf f0
            have a1 := Class.reads hf f1
            have b0 := Class.reads hf g0
            have b1 := Class.reads hf g1
            have d0 := Class.reads hf c0
            have d1 := Class.reads hf c1
            repeat (go_big_quiet_step ((first
              | (go_at_call 141; with_reducible exact hf.made (after_is b off n cap k m j X Y _ (by omega) h8 (by omega) (by omega) EJ.out (by apply d0) (by apply d1)))
              | (go_at_call 140; with_reducible exact hf.made (vsub_is _ _ _ _ _ _ _ (by assumption) (by assumption) (by assumption) (by assumption) EP.out EQ.out))
              | (go_at_call 95; with_reducible exact hf.made (vcross_is _ _ _ _ _ _ (by assumption) (by assumption) (by assumption) (by assumption) EC.out)))))
            refine wpQuiet_nil ?_
            intro w4 h4
            have M4 : Hid (Made W0.heap.size W0 w4) := HM2.out.then_ ((hf.here h4).low HM2.out.1.size)
            clear h4 hf a0 a1 b0 b1 d0 d1
            have hl1 : ¬ (m : Int) = (n : Int) - 1 := by omega
            go_wp2_with fail
            go_roundg (n - 1 - (m + 1))
            case rel => exact ⟨m + 1, by omega, by omega, by go_num, HN, M4⟩
            case measure => omega
        · have hF : Hid (r = false) := by
            refine Bool.eq_false_iff.2 fun h => hpos ?_
            have a := HR.out.1 h k hlt m hm2 (by omega)
            rw [HC.out] at a
            exact a
          go_wp2_with fail
          refine reg_made (by kernel_rfl) (by kernel_rfl) ?_
          intro T hT fw hf
          have a0 := Class.reads hf f0
          have a1 := Class.reads hf f1
          have b0 := Class.reads hf g0
          have b1 := Class.reads hf g1
          have d0 := Class.reads hf c0
          have d1 := Class.reads hf c1
          repeat (go_big_quiet_step ((first
            | (go_at_call 141; with_reducible exact hf.made (after_is b off n cap k m j X Y _ (by omega) h8 (by omega) (by omega) EJ.out (by apply d0) (by apply d1)))
            | (go_at_call 140; with_reducible exact hf.made (vsub_is _ _ _ _ _ _ _ (by assumption) (by assumption) (by assumption) (by assumption) EP.out EQ.out))
            | (go_at_call 95; with_reducible exact hf.made (vcross_is _ _ _ _ _ _ (by assumption) (by assumption) (by assumption) (by assumption) EC.out)))))
          refine wpQuiet_nil ?_
          intro w4 h4
          have M4 : Hid (Made W0.heap.size W0 w4) := HM2.out.then_ ((hf.here h4).low HM2.out.1.size)
          clear h4 hf a0 a1 b0 b1 d0 d1
          go_wp2_with fail
          try rw [Exit.noGoto_ret]
          go_ret
          exact ⟨by rw [hF.out]; rfl, M0.out.then_ (M4.out.low M0.out.1.size)⟩
    · go_wp2_with fail
      try rw [Exit.noGoto_ret]
      go_ret
      have e : k = n := by omega
      subst e
      exact ⟨by rw [HR.out.2 HT.out]; rfl, HM.out⟩
end Go.Proofs.YtfncelifflebbaaGreat.Fx

/- Contracts of package shape: Right. -/
namespace Go.Proofs.YtfncelifflebbaaGreat.Fx
open Go.ChangeShapes Go.WideShapes Go.ChangeAt Go.RowKit
set_option linter.unusedVariables false

abbrev shapeV (K R : Int) (s : Value) : Value := .agg #[.int .i64 K, .int .i64 R, s]
abbrev bodyV (i x y vx vy an sp d K R : Int) (s : Value) : Value := .agg #[.int .i64 i, .int .i64 x, .int .i64 y, .int .i64 vx, .int .i64 vy, .int .i64 an, .int .i64 sp, .int .i64 d, .int .i64 K, .int .i64 R, s]
def Sl (w : World) (ao : Option Addr) (n : Nat) (f : Cs) : Prop := 0 < n → ∃ b off, ao = some ⟨b, off, none⟩ ∧ Pts w b off n f
theorem Sl.kept {w v : World} {ao : Option Addr} {n : Nat} {f : Cs} (h : Sl w ao n f) (k : Made w.heap.size w v) : Sl v ao n f := fun h0 => by
  obtain ⟨b, off, e, p⟩ := h h0
  exact ⟨b, off, e, p.kept k⟩

set_option maxRecDepth 100000 in
set_option maxHeartbeats 2000000 in
theorem right_circle (R : Int) (ao : Option Addr) (n cap : Nat) (f : Cs) (w : World) (r : Bool) (hr : r = true ↔ RightP 1 R n f) :
    Calls Tryz.prog 78 #[shapeV 1 R (.slice ao n cap)] w fun e w' => e = .returned (.bool r) ∧ Made w.heap.size w w' := by
  have HR : Hid (r = decide (n = 0 ∧ 16777216 ≤ R ∧ R ≤ 274877906944)) := by
    unfold Hid
    rw [Bool.eq_iff_iff, hr, decide_eq_true_iff]
    constructor
    · rintro (h | h)
      · exact h.2
      · omega
    · intro h; exact .inl ⟨rfl, h⟩
  clear hr
  by_cases h1 : 16777216 ≤ R
  · by_cases h2 : R ≤ 274877906944
    · by_cases h3 : n = 0
      · subst h3
        have HT : Hid (r = true) := HR.out.trans (decide_eq_true ⟨rfl, h1, h2⟩)
        go_enter Tryz.func78, Tryz.ntmps78
        go_wp2_with fail
        go_ret
        exact ⟨by rw [HT.out]; rfl, (Made.rfl_ _ _).cells (Nat.le_refl _) _ _⟩
      · have h3' : ((n : Int) == 0) = false := by simpa using h3
        have HT : Hid (r = false) := HR.out.trans (decide_eq_false (fun h => h3 h.1))
        go_enter Tryz.func78, Tryz.ntmps78
        go_wp2_with fail
        go_ret
        exact ⟨by rw [HT.out]; rfl, (Made.rfl_ _ _).cells (Nat.le_refl _) _ _⟩
    · have HT : Hid (r = false) := HR.out.trans (decide_eq_false (fun h => h2 h.2.2))
      go_enter Tryz.func78, Tryz.ntmps78
      go_wp2_with fail
      go_ret
      exact ⟨by rw [HT.out]; rfl, (Made.rfl_ _ _).cells (Nat.le_refl _) _ _⟩
  · have HT : Hid (r = false) := HR.out.trans (decide_eq_false (fun h => h1 h.2.1))
    go_enter Tryz.func78, Tryz.ntmps78
    go_wp2_with fail
    go_ret
    exact ⟨by rw [HT.out]; rfl, (Made.rfl_ _ _).cells (Nat.le_refl _) _ _⟩

set_option maxRecDepth 100000 in
set_option maxHeartbeats 2000000 in
theorem right_none (K R : Int) (ao : Option Addr) (n cap : Nat) (f : Cs) (w : World) (h1 : K ≠ 1) (h2 : ¬ (K = 2 ∧ R = 0 ∧ 3 ≤ n ∧ n ≤ 8)) (r : Bool) (hr : r = true ↔ RightP K R n f) :
    Calls Tryz.prog 78 #[shapeV K R (.slice ao n cap)] w fun e w' => e = .returned (.bool r) ∧ Made w.heap.size w w' := by
  have HR : Hid (r = false) := by
    unfold Hid
    rw [Bool.eq_false_iff]
    intro h
    rcases hr.1 h with h | h
    · exact h1 h.1
    · exact h2 ⟨h.1, h.2.1, h.2.2.1, h.2.2.2.1⟩
  clear hr
  have k1 : (K == 1) = false := by simpa using h1
  by_cases hK : K = 2
  · subst hK
    clear h1 k1
    by_cases hR : R = 0
    · subst hR
      by_cases hn : 3 ≤ n
      · have h8 : ¬ n ≤ 8 := fun h => h2 ⟨rfl, rfl, hn, h⟩
        clear h2
        go_enter Tryz.func78, Tryz.ntmps78
        go_wp2_with fail
        go_ret
        exact ⟨by rw [HR.out]; rfl, (Made.rfl_ _ _).cells (Nat.le_refl _) _ _⟩
      · clear h2
        go_enter Tryz.func78, Tryz.ntmps78
        go_wp2_with fail
        go_ret
        exact ⟨by rw [HR.out]; rfl, (Made.rfl_ _ _).cells (Nat.le_refl _) _ _⟩
    · have k2 : (R == 0) = false := by simpa using hR
      clear h2 hR
      go_enter Tryz.func78, Tryz.ntmps78
      go_wp2_with fail
      go_ret
      exact ⟨by rw [HR.out]; rfl, (Made.rfl_ _ _).cells (Nat.le_refl _) _ _⟩
  · have k2 : (K == 2) = false := by simpa using hK
    clear h1 h2 hK
    go_enter Tryz.func78, Tryz.ntmps78
    go_wp2_with fail
    go_ret
    exact ⟨by rw [HR.out]; rfl, (Made.rfl_ _ _).cells (Nat.le_refl _) _ _⟩

set_option maxRecDepth 100000 in
set_option maxHeartbeats 2000000 in
theorem right_poly (b off n cap : Nat) (f : Cs) (w : World) (h3 : 3 ≤ n) (h8 : n ≤ 8) (hp : Pts w b off n f) (hi : Cin f n) (r : Bool) (hr : r = true ↔ RightP 2 0 n f) :
    Calls Tryz.prog 78 #[shapeV 2 0 (.slice (some ⟨b, off, none⟩) n cap)] w fun e w' => e = .returned (.bool r) ∧ Made w.heap.size w w' := by
  have HP : Hid (∀ v, Made w.heap.size w v → Pts v b off n f) := fun v k => hp.kept k
  have HI := hid hi
  clear hp hi
  have HR : Hid (r = true ↔ (∀ i, i < n → NearP (f i)) ∧ CvxP f n) := by
    refine hr.trans ⟨?_, fun h => .inr ⟨rfl, rfl, h3, h8, h.1, h.2⟩⟩
    rintro (h | h)
    · omega
    · exact ⟨h.2.2.2.2.1, h.2.2.2.2.2⟩
  clear hr
  by_cases hN : ∀ i, i < n → NearP (f i)
  · have HN := hid hN
    have HC : Hid (r = true ↔ CvxP f n) := HR.out.trans ⟨fun h => h.2, fun h => ⟨hN, h⟩⟩
    clear hN
    go_enter Tryz.func78, Tryz.ntmps78
    go_wp2_with fail
    refine (near_is b off n cap f _ h8 (HP.out _ ((Made.rfl_ _ _).cells (Nat.le_refl _) _ _)) HI.out true ⟨fun _ => HN.out, fun _ => rfl⟩).mono ?_
    rintro e w1 ⟨rfl, k1⟩
    have x0 := k1.reads (p := ⟨w.heap.size, 2, none⟩) (x := .slice (some ⟨b, off, none⟩) n cap) (by go_simp)
    have M1 := hid (made_box k1)
    clear k1
    go_wp2_with fail
    refine (convex_is b off n cap f _ h3 h8 (HP.out _ M1.out) HI.out r HC.out).mono ?_
    rintro e w2 ⟨rfl, k2⟩
    have M2 := hid (M1.out.then_ (k2.low M1.out.1.size))
    clear k2
    go_wp2_with fail
    go_ret
    exact ⟨by cases r <;> rfl, M2.out⟩
  · have HN := hid hN
    have HF : Hid (r = false) := Bool.eq_false_iff.2 fun h => hN (HR.out.1 h).1
    clear hN
    go_enter Tryz.func78, Tryz.ntmps78
    go_wp2_with fail
    refine (near_is b off n cap f _ h8 (HP.out _ ((Made.rfl_ _ _).cells (Nat.le_refl _) _ _)) HI.out false ⟨fun h => (by cases h), fun h => absurd h HN.out⟩).mono ?_
    rintro e w1 ⟨rfl, k1⟩
    have M1 := hid (made_box k1)
    clear k1
    go_wp2_with fail
    go_ret
    exact ⟨by rw [HF.out]; rfl, M1.out⟩

theorem right_is (K R : Int) (ao : Option Addr) (n cap : Nat) (f : Cs) (w : World) (hs : Sl w ao n f) (hi : Cin f n) (r : Bool) (hr : r = true ↔ RightP K R n f) :
    Calls Tryz.prog 78 #[shapeV K R (.slice ao n cap)] w fun e w' => e = .returned (.bool r) ∧ Made w.heap.size w w' := by
  by_cases h1 : K = 1
  · subst h1; exact right_circle R ao n cap f w r hr
  · by_cases h2 : K = 2 ∧ R = 0 ∧ 3 ≤ n ∧ n ≤ 8
    · obtain ⟨rfl, rfl, h3, h8⟩ := h2
      obtain ⟨b, off, rfl, hp⟩ := hs (by omega)
      exact right_poly b off n cap f w h3 h8 hp hi r hr
    · exact right_none K R ao n cap f w h1 h2 r hr
end Go.Proofs.YtfncelifflebbaaGreat.Fx

/- Contracts of package shape: Corners, Normals. -/
namespace Go.Proofs.YtfncelifflebbaaGreat.Fx
open Go.ChangeShapes Go.WideShapes Go.ChangeAt Go.RowKit
set_option linter.unusedVariables false

theorem info_V : (Tryz.prog.info? 24).map (fun i => (i.zero, i.size, i.bytes)) = some (some (.agg #[.int .i64 0, .int .i64 0]), 2, 16) := by kernel_rfl
def placeF (f : Cs) (c s x y : Int) : Cs := fun i => (addF (subF (mulF c (f i).1) (mulF s (f i).2)) x, addF (addF (mulF s (f i).1) (mulF c (f i).2)) y)
def upto (f : Cs) (k : Nat) : Cs := fun i => if i < k then f i else (0, 0)
end Go.Proofs.YtfncelifflebbaaGreat.Fx

/- Contracts of package shape: Box, Copy, Reach. -/
namespace Go.Proofs.YtfncelifflebbaaGreat.Fx
open Go.ChangeShapes Go.WideShapes Go.ChangeAt Go.RowKit
set_option linter.unusedVariables false

theorem has_next (w : World) (o : Obj) (t : TypeId) (A : Array Value) : Has ((w.alloc o).alloc (.cells A t)) (w.heap.size + 1) t A := by simpa using has_new (w.alloc o) t A
def boxF (a b : Int) : Cs := fun i => (if i = 0 ∨ i = 3 then negF a else a, if i = 0 ∨ i = 1 then negF b else b)
set_option maxRecDepth 100000 in
set_option maxHeartbeats 2000000 in
theorem box_is (a b : Int) (w : World) (f : Cs) (ha : I64 a) (hb : I64 b) (hf : ∀ i, i < 4 → boxF a b i = f i) :
    Calls Tryz.prog 117 #[.int .i64 a, .int .i64 b] w fun e w' => ∃ g, e = .returned (shapeV 2 0 (.slice (some ⟨g, 0, none⟩) 4 4)) ∧ w.heap.size ≤ g ∧ Row w' g 24 4 f ∧ Made w.heap.size w w' := by
  have HF := hid hf
  clear hf
  go_enter Tryz.func117, Tryz.ntmps117
  go_wp2_with fail
  refine (neg_c a _ ha).mono ?_
  rintro e w' ⟨rfl, rfl⟩
  go_wp2_with fail
  refine (neg_c b _ hb).mono ?_
  rintro e w' ⟨rfl, rfl⟩
  go_wp2_with fail
  refine bodyPost_ret (v := shapeV 2 0 (.slice (some ⟨w.heap.size + 1, 0, none⟩) 4 4)) (by simp [results, Tryz.results117, go_sem]) rfl ⟨_, rfl, by omega, ?_, ((Made.rfl_ _ _).cells (Nat.le_refl _) _ _).cells (by simp) _ _⟩
  refine Row.congr (f := boxF a b) ?_ HF.out
  refine ⟨_, has_next _ _ _ _, by simp, fun j hj => ?_⟩
  rcases (show j = 0 ∨ j = 1 ∨ j = 2 ∨ j = 3 ∨ j = 4 ∨ j = 5 ∨ j = 6 ∨ j = 7 by omega) with rfl | rfl | rfl | rfl | rfl | rfl | rfl | rfl <;> rfl

set_option maxRecDepth 100000 in
set_option maxHeartbeats 2000000 in
theorem clone_is (b off n cap : Nat) (f : Cs) (w : World) (hn : 0 < n) (h8 : n ≤ 8) (hp : Pts w b off n f) :
    Calls Tryz.prog 82 #[.slice (some ⟨b, off, none⟩) n cap] w fun e w' => ∃ g c, e = .returned (.slice (some ⟨g, 0, none⟩) n c) ∧ w.heap.size ≤ g ∧ Row w' g 24 n f ∧ Made w.heap.size w w' := by
  have HP := hid hp
  clear hp
  have q := fun W : World => Lib.run_eql_slice_nil (P := Tryz.prog) W 25 24 (some ⟨b, off, none⟩) n cap 0 0 Tryz.underlying25
  have hb : b < w.heap.size := HP.out.here hn
  have HA : Hid (Made w.heap.size w (w.alloc (.cells #[] 24))) := (Made.rfl_ _ _).cells (Nat.le_refl _) _ _
  have HO : Hid ((w.alloc (.cells #[] 24)).ownsRow w.heap.size 24 2 (.slice (some ⟨w.heap.size, 0, none⟩) 0 0) 0 []) := World.ownsRow_lit w #[] 0 (Nat.le_refl _) (by unfold maxLen; omega) rfl
  obtain ⟨i0, hi, hz0, hz1, hz2⟩ := info_parts info_V
  go_enter Tryz.func82, Tryz.ntmps82
  go_wp2_with (at_builtin; refine wpList_append_made _ rfl (.tmp 5) (.tmp 6) 25 rfl w.heap.size 24 i0 (.agg #[.int .i64 0, .int .i64 0]) 2 16 Tryz.underlying25 hi hz0 hz1 hz2 rfl (by decide) (.slice (some ⟨w.heap.size, 0, none⟩) 0 0) 0 [] rfl HO.out ⟨b, off, none⟩ n cap (flat f n) rfl (flat_len f n) (HP.out.kept HA.out).flat_at (flat_one f n) (by unfold maxLen; omega) (by omega) (by simp) hn ?_)
  intro v' w1 hown hg hf
  obtain ⟨g, c, rfl, hbg, hc, hm, hrow⟩ := Row.of_own hown hn
  have M1 : Hid (Made w.heap.size w w1) := HA.out.app hg hf (by simp) (fun k hk => by simp [Value.ownBlock] at hk; omega)
  have HR := hid hrow
  clear hown hg hf hrow
  go_wp2_with fail
  go_ret
  exact ⟨g, c, rfl, hbg, HR.out, M1.out⟩

set_option maxRecDepth 100000 in
set_option maxHeartbeats 2000000 in
theorem copy_is (K R : Int) (b off n cap : Nat) (f : Cs) (w : World) (hn : 0 < n) (h8 : n ≤ 8) (hp : Pts w b off n f) :
    Calls Tryz.prog 43 #[shapeV K R (.slice (some ⟨b, off, none⟩) n cap)] w fun e w' => ∃ g c, e = .returned (shapeV K R (.slice (some ⟨g, 0, none⟩) n c)) ∧ w.heap.size ≤ g ∧ Row w' g 24 n f ∧ Made w.heap.size w w' := by
  have HP : Hid (∀ v, Made w.heap.size w v → Pts v b off n f) := fun v k => hp.kept k
  clear hp
  go_enter Tryz.func43, Tryz.ntmps43
  go_wp2_with fail
  refine (clone_is b off n cap f _ hn h8 (HP.out _ (((Made.rfl_ _ _).cells (Nat.le_refl _) _ _).cells (by simp) _ _))).mono ?_
  rintro e w1 ⟨g, c, rfl, hg, hrow, k1⟩
  have x0 := k1.reads (p := ⟨w.heap.size, 0, none⟩) (x := .int .i64 K) (by go_simp)
  have x1 := k1.reads (p := ⟨w.heap.size, 1, none⟩) (x := .int .i64 R) (by go_simp)
  have x2 := k1.reads (p := ⟨w.heap.size, 2, none⟩) (x := .slice (some ⟨b, off, none⟩) n cap) (by go_simp)
  have m2 : w1.frozen? ⟨w.heap.size, 2, none⟩ = false := (k1.2 _).trans (by go_simp)
  have r0 := k1.reads (p := ⟨w.heap.size + 1, 0, none⟩) (x := .int .i64 0) (by go_simp)
  have r1 := k1.reads (p := ⟨w.heap.size + 1, 1, none⟩) (x := .int .i64 0) (by go_simp)
  have r2 := k1.reads (p := ⟨w.heap.size + 1, 2, none⟩) (x := .slice none 0 0) (by go_simp)
  have n0 : w1.frozen? ⟨w.heap.size + 1, 0, none⟩ = false := (k1.2 _).trans (by go_simp)
  have n1 : w1.frozen? ⟨w.heap.size + 1, 1, none⟩ = false := (k1.2 _).trans (by go_simp)
  have n2 : w1.frozen? ⟨w.heap.size + 1, 2, none⟩ = false := (k1.2 _).trans (by go_simp)
  have hg2 : w.heap.size + 1 < g := by simp at hg; omega
  have M1 := hid (made_box (made_box k1))
  have HR := hid hrow
  have HG := hid hg2
  clear k1 hrow hg hg2
  go_wp2_with fail
  refine bodyPost_ret (v := shapeV K R (.slice (some ⟨g, 0, none⟩) n c)) (by simp [results, Tryz.results43, go_sem, r0, r1, r2]) rfl ⟨g, c, rfl, by have := HG.out; omega, ?_, ?_⟩
  · have := HG.out
    exact (((HR.out.other _ (by simp; omega) _).other _ (by simp; omega) _).other _ (by simp; omega) _).other _ (by simp; omega) _
  · exact (((M1.out.put (by simp) _).put (by simp) _).put (by simp) _).put (by simp) _

end Go.Proofs.YtfncelifflebbaaGreat.Fx

