/- Shapes WoP -/
import Derived.Test.YtjhcejmfiekjgaaGreatSt0
import Derived.Test.YtjhcejmfiekjgaaGreatSt1
import Derived.Test.YtjhcejmfiekjgaaGreatSt3
import Derived.Deep.LoopGhost
import Derived.LoopN
import Derived.WalkMore
import Derived.OwnWalk
import Derived.Lib.SliceRun
set_option maxRecDepth 100000
set_option maxHeartbeats 64000000
/- Contracts of package shape. -/
/- Contracts of package shape: after, near. -/
namespace Go.Proofs.YtjhcejmfiekjgaaGreat.Fx
open Go.ChangeShapes Go.WideShapes Go.ChangeAt Go.RowKit
set_option linter.unusedVariables false
def Cin (f : Cs) (n : Nat) : Prop := ∀ i, i < n → I64 (f i).1 ∧ I64 (f i).2
theorem alc_V {d : Tmp} {ty : TypeId} {ps : String} {af : Array Edge} : Alc Tryz.prog { dst := some d, op := .alloc 26, type := ty, pos := ps, after := af, guard := none } d 26 #[.int .i64 0, .int .i64 0] :=
 ⟨rfl, rfl, fun a w => by go_simp⟩
theorem vneq_no (x y X Y : Int) (h : ¬ (X = x ∧ Y = y)) (w : World) : (binOp .neq 26 (vecV x y) (vecV X Y)).run Tryz.prog w = .ok (.bool true) w := by
 by_cases hx : x = X
 ·have hy : (y == Y) = false := by simpa using fun e => h ⟨hx.symm, e.symm⟩
  subst hx
  go_simp
 ·have hy : (x == X) = false := by simpa using hx
  go_simp
theorem after_is (b off n cap i k j : Nat) (x y : Int) (w : World) (hn : 0 < n) (h8 : n ≤ 8) (hi : i < 8) (hk : k ≤ 8) (hj : (i + k) % n = j)
  (hx : w.cell? ⟨b, off + j * 2, none⟩ = some (.int .i64 x)) (hy : w.cell? ⟨b, off + j * 2 + 1, none⟩ = some (.int .i64 y)) :
  Calls Tryz.prog 132 #[.slice (some ⟨b, off, none⟩) n cap, .int .i64 i, .int .i64 k] w fun e w' => e = .returned (vecV x y) ∧ Made w.heap.size w w' := by
 have hjn : j < n := by rw [← hj]; exact Nat.mod_lt _ hn
 have hm : ((i : Int) + (k : Int)).tmod (n : Int) = (j : Int) := by
  rw [Int.tmod_eq_emod_of_nonneg (by omega), ← hj, Int.natCast_emod, Int.natCast_add]
 have H := hid hj
 clear hj
 have hb : b < w.heap.size := World.block_lt_of_cell? _ _ hx
 go_enter Tryz.func132, Tryz.ntmps132
 go_wp2_with fail
 refine bodyPost_ret (v := vecV x y) (by simp [results, Tryz.results132, go_sem]) rfl ⟨rfl, ?_⟩
 exact (Made.rfl_ _ _).cells (Nat.le_refl _) _ _
theorem near_is (b off n cap : Nat) (f : Cs) (w : World) (h8 : n ≤ 8) (hp : Pts w b off n f) (hi : Cin f n) (r : Bool) (hr : r = true ↔ ∀ i, i < n → NearP (f i)) :
  Calls Tryz.prog 108 #[.slice (some ⟨b, off, none⟩) n cap] w fun e w' => e = .returned (.bool r) ∧ Made w.heap.size w w' := by
 have HP := hid hp
 have HI := hid hi
 have HR := hid hr
 clear hp hi hr
 have iG : I64 274877906944 := by unfold I64; omega
 go_enter Tryz.func108, Tryz.ntmps108
 go_wp2_with fail
 go_loopg [7] n (fun g t wr => ∃ k : Nat, k + g = n ∧ t = .int .i64 k ∧ Hid (∀ j, j < k → NearP (f j)) ∧ Hid (Made w.heap.size w wr))
 case atStart => exact ⟨0, by omega, rfl, fun j hj => absurd hj (by omega), Made.rfl_ _ _⟩
 case round =>
  obtain ⟨k, hk, rfl, HT, HM⟩ := hrel
  by_cases hlt : k < n
  ·obtain ⟨x, ex⟩ : ∃ x, (f k).1 = x := ⟨_, rfl⟩
   obtain ⟨y, ey⟩ : ∃ y, (f k).2 = y := ⟨_, rfl⟩
   obtain ⟨ix, iy⟩ := HI.out k hlt
   obtain ⟨c0, c1⟩ := HP.out k hlt
   rw [ex] at ix c0
   rw [ey] at iy c1
   have c0 := HM.out.reads c0
   have c1 := HM.out.reads c1
   have hb : b < wr.heap.size := World.block_lt_of_cell? _ _ c0
   have EX := hid ex
   have EY := hid ey
   clear ex ey
   obtain ⟨X, eX⟩ : ∃ X, bringF x (negF 274877906944) 274877906944 = X := ⟨_, rfl⟩
   obtain ⟨Y, eY⟩ : ∃ Y, bringF y (negF 274877906944) 274877906944 = Y := ⟨_, rfl⟩
   have EX2 := hid eX
   have EY2 := hid eY
   clear eX eY
   by_cases hN : X = x ∧ Y = y
   ·obtain ⟨hX, hY⟩ := hN
    subst hX
    subst hY
    go_wp2_with fail
    refine reg_made (by kernel_rfl) (by kernel_rfl) ?_
    intro T hT fw hf
    have x0 := Class.reads hf (p := ⟨wr.heap.size, 0, none⟩) (u := .int .i64 X) (by go_simp)
    have x1 := Class.reads hf (p := ⟨wr.heap.size, 1, none⟩) (u := .int .i64 Y) (by go_simp)
    repeat (go_big_quiet_step ((go_at_call 87; with_reducible exact hf.made (vbring_is _ _ _ _ _ _ (by assumption) (by assumption) (by assumption) EX2.out EY2.out))))
    refine wpQuiet_nil ?_
    intro w3 h3
    have k3 := hf.here h3
    go_wp2_with fail
    go_roundg (n - k - 1)
    case rel =>
     refine ⟨k + 1, by omega, by go_num, fun j hj => ?_, HM.out.then_ (made_box k3 |>.low HM.out.1.size)⟩
     rcases (show j < k ∨ j = k by omega) with h | rfl
     ·exact HT.out j h
     ·have a := (near_bring ix).1 EX2.out
      have b := (near_bring iy).1 EY2.out
      rw [← EX.out] at a
      rw [← EY.out] at b
      exact ⟨a, b⟩
    case measure => omega
   ·have HN := hid hN
    have q := vneq_no x y X Y hN
    clear hN
    go_wp2_with fail
    refine reg_made (by kernel_rfl) (by kernel_rfl) ?_
    intro T hT fw hf
    have x0 := Class.reads hf (p := ⟨wr.heap.size, 0, none⟩) (u := .int .i64 x) (by go_simp)
    have x1 := Class.reads hf (p := ⟨wr.heap.size, 1, none⟩) (u := .int .i64 y) (by go_simp)
    repeat (go_big_quiet_step ((go_at_call 87; with_reducible exact hf.made (vbring_is _ _ _ _ _ _ (by assumption) (by assumption) (by assumption) EX2.out EY2.out))))
    refine wpQuiet_nil ?_
    intro w3 h3
    have k3 := hf.here h3
    go_wp2_with fail
    go_ret
    refine ⟨?_, HM.out.then_ (made_box k3 |>.low HM.out.1.size)⟩
    have hF : r = false := by
     refine Bool.eq_false_iff.2 fun h => HN.out ?_
     have a := HR.out.1 h k hlt
     have ex := EX.out
     have ey := EY.out
     unfold NearP at a
     rw [ex, ey] at a
     exact ⟨EX2.out.symm.trans ((near_bring ix).2 a.1), EY2.out.symm.trans ((near_bring iy).2 a.2)⟩
    rw [hF]; rfl
  ·go_wp2_with fail
   go_ret
   have e : k = n := by omega
   subst e
   exact ⟨by rw [HR.out.2 HT.out]; rfl, HM.out⟩
theorem convex_is (b off n cap : Nat) (f : Cs) (w : World) (h3 : 3 ≤ n) (h8 : n ≤ 8) (hp : Pts w b off n f) (hi : Cin f n) (r : Bool) (hr : r = true ↔ CvxP f n) :
  Calls Tryz.prog 109 #[.slice (some ⟨b, off, none⟩) n cap] w fun e w' => e = .returned (.bool r) ∧ Made w.heap.size w w' := by
 have HP := hid hp
 have HI := hid hi
 have HR : Hid (r = true ↔ ∀ i, i < n → ∀ on, 2 ≤ on → on < n → 0 < crossF f i ((i + 1) % n) ((i + on) % n)) := hid (hr.trans (cvx_on h3 h8))
 clear hp hi hr
 go_enter Tryz.func109, Tryz.ntmps109
 go_wp2_with fail
 go_step3
 go_wp2_with fail
 go_step3
 go_wp2_with fail
 go_loopg [9] n (fun g t wr => ∃ k : Nat, k + g = n ∧ t = .int .i64 k ∧ Hid (∀ i, i < k → ∀ on, 2 ≤ on → on < n → 0 < crossF f i ((i + 1) % n) ((i + on) % n)) ∧ Hid (Made w.heap.size w wr))
 case atStart => exact ⟨0, by omega, rfl, fun j hj => absurd hj (by omega), Made.rfl_ _ _⟩
 case round =>
  obtain ⟨k, hk, rfl, HT, HM⟩ := hrel
  by_cases hlt : k < n
  ·obtain ⟨x, ex⟩ : ∃ x, (f k).1 = x := ⟨_, rfl⟩
   obtain ⟨y, ey⟩ : ∃ y, (f k).2 = y := ⟨_, rfl⟩
   obtain ⟨ix, iy⟩ := HI.out k hlt
   obtain ⟨c0, c1⟩ := HP.out k hlt
   rw [ex] at ix c0
   rw [ey] at iy c1
   have c0 := HM.out.reads c0
   have c1 := HM.out.reads c1
   have hb : b < wr.heap.size := World.block_lt_of_cell? _ _ c0
   have EX := hid ex
   have EY := hid ey
   clear ex ey
   have hl : (k + 1) % n < n := Nat.mod_lt _ (by omega)
   obtain ⟨l, el⟩ : ∃ l, (k + 1) % n = l := ⟨_, rfl⟩
   rw [el] at hl
   have EL := hid el
   clear el
   obtain ⟨x', ex'⟩ : ∃ x, (f l).1 = x := ⟨_, rfl⟩
   obtain ⟨y', ey'⟩ : ∃ y, (f l).2 = y := ⟨_, rfl⟩
   obtain ⟨ix', iy'⟩ := HI.out l hl
   obtain ⟨d0, d1⟩ := HP.out l hl
   rw [ex'] at ix' d0
   rw [ey'] at iy' d1
   have d0 := HM.out.reads d0
   have d1 := HM.out.reads d1
   have EX' := hid ex'
   have EY' := hid ey'
   clear ex' ey'
   obtain ⟨u, eu⟩ : ∃ u, subF x' x = u := ⟨_, rfl⟩
   obtain ⟨v, ev⟩ : ∃ v, subF y' y = v := ⟨_, rfl⟩
   have iu : I64 u := by rw [← eu]; exact i64_sub _ _
   have iv : I64 v := by rw [← ev]; exact i64_sub _ _
   have EU := hid eu
   have EV := hid ev
   clear eu ev
   go_wp2_with fail
   refine reg_float1 5 36 5 26 #[.int .i64 0, .int .i64 0] _ (by kernel_rfl) (by kernel_rfl) (by kernel_rfl) rfl rfl alc_V ?_
   apply Exists.intro
   refine ⟨?h1, ?h2⟩
   case h1 =>
    intro T hT fw hf
    have a0 := Class.reads hf (p := ⟨wr.heap.size, 0, none⟩) (u := .int .i64 x) (by go_simp)
    have a1 := Class.reads hf (p := ⟨wr.heap.size, 1, none⟩) (u := .int .i64 y) (by go_simp)
    have b0 := Class.reads hf (p := ⟨b, off + l * 2, none⟩) (u := .int .i64 x') (by go_simp)
    have b1 := Class.reads hf (p := ⟨b, off + l * 2 + 1, none⟩) (u := .int .i64 y') (by go_simp)
    simp only [List.take_succ_cons, List.take_zero]
    repeat (go_big_quiet_step ((first
     | (go_at_call 132; with_reducible exact hf.made (after_is b off n cap k 1 l x' y' _ (by omega) h8 (by omega) (by omega) EL.out (by apply b0) (by apply b1)))
     | (go_at_call 9; with_reducible exact hf.made (vsub_is _ _ _ _ _ _ _ (by assumption) (by assumption) (by assumption) (by assumption) EU.out EV.out)))))
    exact wpQuiet_nil rfl
   intro g w3 k3 hg hh
   have e0 := k3.reads (p := ⟨wr.heap.size, 0, none⟩) (x := .int .i64 x) (by go_simp)
   have e1 := k3.reads (p := ⟨wr.heap.size, 1, none⟩) (x := .int .i64 y) (by go_simp)
   have M3 : Hid (Made w.heap.size w w3) := HM.out.then_ (made_box k3 |>.low HM.out.1.size)
   have hg1 : wr.heap.size < g := by simp at hg; omega
   have hgw : w.heap.size ≤ g := Nat.le_trans HM.out.1.size (Nat.le_of_lt hg1)
   have z0 := hh.at_ 0
   have z1 := hh.at_ 1
   simp at z0 z1
   have zf : ∀ i, w3.frozen? ⟨g, i, none⟩ = false := fun i => hh.free i
   have hgs := hh.here
   clear k3 c0 c1 d0 d1 hh hg
   simp only [List.drop_succ_cons, List.drop_zero]
   go_wp2_with fail
   obtain ⟨W0, eW⟩ : ∃ W, W = (w3.setCell ⟨g, 0, none⟩ (.int .i64 u)).setCell ⟨g, 1, none⟩ (.int .i64 v) := ⟨_, rfl⟩
   have f0 : W0.cell? ⟨wr.heap.size, 0, none⟩ = some (.int .i64 x) := by rw [eW]; go_simp
   have f1 : W0.cell? ⟨wr.heap.size, 1, none⟩ = some (.int .i64 y) := by rw [eW]; go_simp
   have g0 : W0.cell? ⟨g, 0, none⟩ = some (.int .i64 u) := by rw [eW]; go_simp
   have g1 : W0.cell? ⟨g, 1, none⟩ = some (.int .i64 v) := by rw [eW]; go_simp
   have M0 : Hid (Made w.heap.size w W0) := by unfold Hid; rw [eW]; exact (M3.out.put (by simpa using hgw) _).put (by simpa using hgw) _
   have P0 : Hid (Pts W0 b off n f) := HP.out.kept (M0.out)
   rw [← eW]
   clear eW
   have F0 := hid f0; have F1 := hid f1; have G0 := hid g0; have G1 := hid g1
   clear f0 f1 g0 g1 e0 e1
   go_loopg [6] (n - 3) (fun g t v2 => ∃ m : Nat, m + g = n - 1 ∧ 2 ≤ m ∧ t = .int .i64 m ∧ Hid (∀ on, 2 ≤ on → on < m → 0 < crossF f k ((k + 1) % n) ((k + on) % n)) ∧ Hid (Made W0.heap.size W0 v2))
   case atStart => exact ⟨2, by omega, by omega, rfl, fun on h2 h => absurd h (by omega), Made.rfl_ _ _⟩
   case round =>
    obtain ⟨m, hm, hm2, rfl, HI2, HM2⟩ := hrel
    have hj : (k + m) % n < n := Nat.mod_lt _ (by omega)
    obtain ⟨j, ej⟩ : ∃ j, (k + m) % n = j := ⟨_, rfl⟩
    rw [ej] at hj
    have EJ := hid ej
    clear ej
    obtain ⟨X, eX⟩ : ∃ X, (f j).1 = X := ⟨_, rfl⟩
    obtain ⟨Y, eY⟩ : ∃ Y, (f j).2 = Y := ⟨_, rfl⟩
    obtain ⟨iX, iY⟩ := HI.out j hj
    obtain ⟨c0, c1⟩ := P0.out j hj
    rw [eX] at iX c0
    rw [eY] at iY c1
    have c0 := HM2.out.reads c0
    have c1 := HM2.out.reads c1
    have f0 := HM2.out.reads F0.out
    have f1 := HM2.out.reads F1.out
    have g0 := HM2.out.reads G0.out
    have g1 := HM2.out.reads G1.out
    have HX := hid eX
    have HY := hid eY
    clear eX eY
    obtain ⟨P, eP⟩ : ∃ P, subF X x = P := ⟨_, rfl⟩
    obtain ⟨Q, eQ⟩ : ∃ Q, subF Y y = Q := ⟨_, rfl⟩
    have iP : I64 P := by rw [← eP]; exact i64_sub _ _
    have iQ : I64 Q := by rw [← eQ]; exact i64_sub _ _
    have EP := hid eP
    have EQ := hid eQ
    clear eP eQ
    obtain ⟨C, eC⟩ : ∃ C, subF (mulF u Q) (mulF v P) = C := ⟨_, rfl⟩
    have EC := hid eC
    clear eC
    have HC : Hid (crossF f k ((k + 1) % n) ((k + m) % n) = C) := by
     unfold Hid
     rw [EL.out, EJ.out]
     unfold crossF
     rw [EX.out, EY.out, EX'.out, EY'.out, HX.out, HY.out, EU.out, EV.out, EP.out, EQ.out, EC.out]
    by_cases hpos : 0 < C
    ·have HN : Hid (∀ on, 2 ≤ on → on < m + 1 → 0 < crossF f k ((k + 1) % n) ((k + on) % n)) := fun on h2 h => by
      rcases (show on < m ∨ on = m by omega) with h' | rfl
      ·exact HI2.out on h2 h'
      ·rw [HC.out]; exact hpos
     by_cases hlast : m = n - 1
     ·have HL := hid hlast
      clear hlast
      go_wp2_with fail
      refine reg_made (by kernel_rfl) (by kernel_rfl) ?_
      intro T hT fw hf
      have a0 := Class.reads hf f0
      have a1 := Class.reads hf f1
      have b0 := Class.reads hf g0
      have b1 := Class.reads hf g1
      have d0 := Class.reads hf c0
      have d1 := Class.reads hf c1
      repeat (go_big_quiet_step ((first
       | (go_at_call 132; with_reducible exact hf.made (after_is b off n cap k m j X Y _ (by omega) h8 (by omega) (by omega) EJ.out (by apply d0) (by apply d1)))
       | (go_at_call 9; with_reducible exact hf.made (vsub_is _ _ _ _ _ _ _ (by assumption) (by assumption) (by assumption) (by assumption) EP.out EQ.out))
       | (go_at_call 38; with_reducible exact hf.made (vcross_is _ _ _ _ _ _ (by assumption) (by assumption) (by assumption) (by assumption) EC.out)))))
      refine wpQuiet_nil ?_
      intro w4 h4
      have M4 : Hid (Made W0.heap.size W0 w4) := HM2.out.then_ ((hf.here h4).low HM2.out.1.size)
      clear h4 hf a0 a1 b0 b1 d0 d1
      have hl1 : (m : Int) = (n : Int) - 1 := by have := HL.out; omega
      go_wp2_with fail
      go_roundg (n - k - 1)
      case rel =>
       refine ⟨k + 1, by omega, by go_num, fun i hi => ?_, M0.out.then_ (M4.out.low M0.out.1.size)⟩
       rcases (show i < k ∨ i = k by omega) with h | rfl
       ·exact HT.out i h
       ·intro on h2 h3; exact HN.out on h2 (by omega)
      case measure => omega
     ·go_wp2_with fail
      refine reg_made (by kernel_rfl) (by kernel_rfl) ?_
      intro T hT fw hf
      have a0 := Class.reads hf f0
      have a1 := Class.reads hf f1
      have b0 := Class.reads hf g0
      have b1 := Class.reads hf g1
      have d0 := Class.reads hf c0
      have d1 := Class.reads hf c1
      repeat (go_big_quiet_step ((first
       | (go_at_call 132; with_reducible exact hf.made (after_is b off n cap k m j X Y _ (by omega) h8 (by omega) (by omega) EJ.out (by apply d0) (by apply d1)))
       | (go_at_call 9; with_reducible exact hf.made (vsub_is _ _ _ _ _ _ _ (by assumption) (by assumption) (by assumption) (by assumption) EP.out EQ.out))
       | (go_at_call 38; with_reducible exact hf.made (vcross_is _ _ _ _ _ _ (by assumption) (by assumption) (by assumption) (by assumption) EC.out)))))
      refine wpQuiet_nil ?_
      intro w4 h4
      have M4 : Hid (Made W0.heap.size W0 w4) := HM2.out.then_ ((hf.here h4).low HM2.out.1.size)
      clear h4 hf a0 a1 b0 b1 d0 d1
      have hl1 : ¬ (m : Int) = (n : Int) - 1 := by omega
      go_wp2_with fail
      go_roundg (n - 1 - (m + 1))
      case rel => exact ⟨m + 1, by omega, by omega, by go_num, HN, M4⟩
      case measure => omega
    ·have hF : Hid (r = false) := by
      refine Bool.eq_false_iff.2 fun h => hpos ?_
      have a := HR.out.1 h k hlt m hm2 (by omega)
      rw [HC.out] at a
      exact a
     go_wp2_with fail
     refine reg_made (by kernel_rfl) (by kernel_rfl) ?_
     intro T hT fw hf
     have a0 := Class.reads hf f0
     have a1 := Class.reads hf f1
     have b0 := Class.reads hf g0
     have b1 := Class.reads hf g1
     have d0 := Class.reads hf c0
     have d1 := Class.reads hf c1
     repeat (go_big_quiet_step ((first
      | (go_at_call 132; with_reducible exact hf.made (after_is b off n cap k m j X Y _ (by omega) h8 (by omega) (by omega) EJ.out (by apply d0) (by apply d1)))
      | (go_at_call 9; with_reducible exact hf.made (vsub_is _ _ _ _ _ _ _ (by assumption) (by assumption) (by assumption) (by assumption) EP.out EQ.out))
      | (go_at_call 38; with_reducible exact hf.made (vcross_is _ _ _ _ _ _ (by assumption) (by assumption) (by assumption) (by assumption) EC.out)))))
     refine wpQuiet_nil ?_
     intro w4 h4
     have M4 : Hid (Made W0.heap.size W0 w4) := HM2.out.then_ ((hf.here h4).low HM2.out.1.size)
     clear h4 hf a0 a1 b0 b1 d0 d1
     go_wp2_with fail
     try rw [Exit.noGoto_ret]
     go_ret
     exact ⟨by rw [hF.out]; rfl, M0.out.then_ (M4.out.low M0.out.1.size)⟩
  ·go_wp2_with fail
   try rw [Exit.noGoto_ret]
   go_ret
   have e : k = n := by omega
   subst e
   exact ⟨by rw [HR.out.2 HT.out]; rfl, HM.out⟩
end Go.Proofs.YtjhcejmfiekjgaaGreat.Fx
/- Contracts of package shape: Right. -/
namespace Go.Proofs.YtjhcejmfiekjgaaGreat.Fx
open Go.ChangeShapes Go.WideShapes Go.ChangeAt Go.RowKit
set_option linter.unusedVariables false
abbrev shapeV (K R : Int) (s : Value) : Value := .agg #[.int .i64 K, .int .i64 R, s]
abbrev bodyV (i x y vx vy an sp d K R : Int) (s : Value) : Value := .agg #[.int .i64 i, .int .i64 x, .int .i64 y, .int .i64 vx, .int .i64 vy, .int .i64 an, .int .i64 sp, .int .i64 d, .int .i64 K, .int .i64 R, s]
def Sl (w : World) (ao : Option Addr) (n : Nat) (f : Cs) : Prop := 0 < n → ∃ b off, ao = some ⟨b, off, none⟩ ∧ Pts w b off n f
theorem Sl.kept {w v : World} {ao : Option Addr} {n : Nat} {f : Cs} (h : Sl w ao n f) (k : Made w.heap.size w v) : Sl v ao n f := fun h0 => by
 obtain ⟨b, off, e, p⟩ := h h0
 exact ⟨b, off, e, p.kept k⟩
theorem right_circle (R : Int) (ao : Option Addr) (n cap : Nat) (f : Cs) (w : World) (r : Bool) (hr : r = true ↔ RightP 1 R n f) :
  Calls Tryz.prog 73 #[shapeV 1 R (.slice ao n cap)] w fun e w' => e = .returned (.bool r) ∧ Made w.heap.size w w' := by
 have HR : Hid (r = decide (n = 0 ∧ 16777216 ≤ R ∧ R ≤ 274877906944)) := by
  unfold Hid
  rw [Bool.eq_iff_iff, hr, decide_eq_true_iff]
  constructor
  ·rintro (h | h)
   ·exact h.2
   ·omega
  ·intro h; exact .inl ⟨rfl, h⟩
 clear hr
 by_cases h1 : 16777216 ≤ R
 ·by_cases h2 : R ≤ 274877906944
  ·by_cases h3 : n = 0
   ·subst h3
    have HT : Hid (r = true) := HR.out.trans (decide_eq_true ⟨rfl, h1, h2⟩)
    go_enter Tryz.func73, Tryz.ntmps73
    go_wp2_with fail
    go_ret
    exact ⟨by rw [HT.out]; rfl, (Made.rfl_ _ _).cells (Nat.le_refl _) _ _⟩
   ·have h3' : ((n : Int) == 0) = false := by simpa using h3
    have HT : Hid (r = false) := HR.out.trans (decide_eq_false (fun h => h3 h.1))
    go_enter Tryz.func73, Tryz.ntmps73
    go_wp2_with fail
    go_ret
    exact ⟨by rw [HT.out]; rfl, (Made.rfl_ _ _).cells (Nat.le_refl _) _ _⟩
  ·have HT : Hid (r = false) := HR.out.trans (decide_eq_false (fun h => h2 h.2.2))
   go_enter Tryz.func73, Tryz.ntmps73
   go_wp2_with fail
   go_ret
   exact ⟨by rw [HT.out]; rfl, (Made.rfl_ _ _).cells (Nat.le_refl _) _ _⟩
 ·have HT : Hid (r = false) := HR.out.trans (decide_eq_false (fun h => h1 h.2.1))
  go_enter Tryz.func73, Tryz.ntmps73
  go_wp2_with fail
  go_ret
  exact ⟨by rw [HT.out]; rfl, (Made.rfl_ _ _).cells (Nat.le_refl _) _ _⟩
theorem right_none (K R : Int) (ao : Option Addr) (n cap : Nat) (f : Cs) (w : World) (h1 : K ≠ 1) (h2 : ¬ (K = 2 ∧ R = 0 ∧ 3 ≤ n ∧ n ≤ 8)) (r : Bool) (hr : r = true ↔ RightP K R n f) :
  Calls Tryz.prog 73 #[shapeV K R (.slice ao n cap)] w fun e w' => e = .returned (.bool r) ∧ Made w.heap.size w w' := by
 have HR : Hid (r = false) := by
  unfold Hid
  rw [Bool.eq_false_iff]
  intro h
  rcases hr.1 h with h | h
  ·exact h1 h.1
  ·exact h2 ⟨h.1, h.2.1, h.2.2.1, h.2.2.2.1⟩
 clear hr
 have k1 : (K == 1) = false := by simpa using h1
 by_cases hK : K = 2
 ·subst hK
  clear h1 k1
  by_cases hR : R = 0
  ·subst hR
   by_cases hn : 3 ≤ n
   ·have h8 : ¬ n ≤ 8 := fun h => h2 ⟨rfl, rfl, hn, h⟩
    clear h2
    go_enter Tryz.func73, Tryz.ntmps73
    go_wp2_with fail
    go_ret
    exact ⟨by rw [HR.out]; rfl, (Made.rfl_ _ _).cells (Nat.le_refl _) _ _⟩
   ·clear h2
    go_enter Tryz.func73, Tryz.ntmps73
    go_wp2_with fail
    go_ret
    exact ⟨by rw [HR.out]; rfl, (Made.rfl_ _ _).cells (Nat.le_refl _) _ _⟩
  ·have k2 : (R == 0) = false := by simpa using hR
   clear h2 hR
   go_enter Tryz.func73, Tryz.ntmps73
   go_wp2_with fail
   go_ret
   exact ⟨by rw [HR.out]; rfl, (Made.rfl_ _ _).cells (Nat.le_refl _) _ _⟩
 ·have k2 : (K == 2) = false := by simpa using hK
  clear h1 h2 hK
  go_enter Tryz.func73, Tryz.ntmps73
  go_wp2_with fail
  go_ret
  exact ⟨by rw [HR.out]; rfl, (Made.rfl_ _ _).cells (Nat.le_refl _) _ _⟩
theorem right_poly (b off n cap : Nat) (f : Cs) (w : World) (h3 : 3 ≤ n) (h8 : n ≤ 8) (hp : Pts w b off n f) (hi : Cin f n) (r : Bool) (hr : r = true ↔ RightP 2 0 n f) :
  Calls Tryz.prog 73 #[shapeV 2 0 (.slice (some ⟨b, off, none⟩) n cap)] w fun e w' => e = .returned (.bool r) ∧ Made w.heap.size w w' := by
 have HP : Hid (∀ v, Made w.heap.size w v → Pts v b off n f) := fun v k => hp.kept k
 have HI := hid hi
 clear hp hi
 have HR : Hid (r = true ↔ (∀ i, i < n → NearP (f i)) ∧ CvxP f n) := by
  refine hr.trans ⟨?_, fun h => .inr ⟨rfl, rfl, h3, h8, h.1, h.2⟩⟩
  rintro (h | h)
  ·omega
  ·exact ⟨h.2.2.2.2.1, h.2.2.2.2.2⟩
 clear hr
 by_cases hN : ∀ i, i < n → NearP (f i)
 ·have HN := hid hN
  have HC : Hid (r = true ↔ CvxP f n) := HR.out.trans ⟨fun h => h.2, fun h => ⟨hN, h⟩⟩
  clear hN
  go_enter Tryz.func73, Tryz.ntmps73
  go_wp2_with fail
  refine (near_is b off n cap f _ h8 (HP.out _ ((Made.rfl_ _ _).cells (Nat.le_refl _) _ _)) HI.out true ⟨fun _ => HN.out, fun _ => rfl⟩).mono ?_
  rintro e w1 ⟨rfl, k1⟩
  have x0 := k1.reads (p := ⟨w.heap.size, 2, none⟩) (x := .slice (some ⟨b, off, none⟩) n cap) (by go_simp)
  have M1 := hid (made_box k1)
  clear k1
  go_wp2_with fail
  refine (convex_is b off n cap f _ h3 h8 (HP.out _ M1.out) HI.out r HC.out).mono ?_
  rintro e w2 ⟨rfl, k2⟩
  have M2 := hid (M1.out.then_ (k2.low M1.out.1.size))
  clear k2
  go_wp2_with fail
  go_ret
  exact ⟨by cases r <;> rfl, M2.out⟩
 ·have HN := hid hN
  have HF : Hid (r = false) := Bool.eq_false_iff.2 fun h => hN (HR.out.1 h).1
  clear hN
  go_enter Tryz.func73, Tryz.ntmps73
  go_wp2_with fail
  refine (near_is b off n cap f _ h8 (HP.out _ ((Made.rfl_ _ _).cells (Nat.le_refl _) _ _)) HI.out false ⟨fun h => (by cases h), fun h => absurd h HN.out⟩).mono ?_
  rintro e w1 ⟨rfl, k1⟩
  have M1 := hid (made_box k1)
  clear k1
  go_wp2_with fail
  go_ret
  exact ⟨by rw [HF.out]; rfl, M1.out⟩
theorem right_is (K R : Int) (ao : Option Addr) (n cap : Nat) (f : Cs) (w : World) (hs : Sl w ao n f) (hi : Cin f n) (r : Bool) (hr : r = true ↔ RightP K R n f) :
  Calls Tryz.prog 73 #[shapeV K R (.slice ao n cap)] w fun e w' => e = .returned (.bool r) ∧ Made w.heap.size w w' := by
 by_cases h1 : K = 1
 ·subst h1; exact right_circle R ao n cap f w r hr
 ·by_cases h2 : K = 2 ∧ R = 0 ∧ 3 ≤ n ∧ n ≤ 8
  ·obtain ⟨rfl, rfl, h3, h8⟩ := h2
   obtain ⟨b, off, rfl, hp⟩ := hs (by omega)
   exact right_poly b off n cap f w h3 h8 hp hi r hr
  ·exact right_none K R ao n cap f w h1 h2 r hr
end Go.Proofs.YtjhcejmfiekjgaaGreat.Fx
/- Contracts of package shape: Corners, Normals. -/
namespace Go.Proofs.YtjhcejmfiekjgaaGreat.Fx
open Go.ChangeShapes Go.WideShapes Go.ChangeAt Go.RowKit
set_option linter.unusedVariables false
theorem info_V : (Tryz.prog.info? 26).map (fun i => (i.zero, i.size, i.bytes)) = some (some (.agg #[.int .i64 0, .int .i64 0]), 2, 16) := by kernel_rfl
def placeF (f : Cs) (c s x y : Int) : Cs := fun i => (addF (subF (mulF c (f i).1) (mulF s (f i).2)) x, addF (addF (mulF s (f i).1) (mulF c (f i).2)) y)
def upto (f : Cs) (k : Nat) : Cs := fun i => if i < k then f i else (0, 0)
end Go.Proofs.YtjhcejmfiekjgaaGreat.Fx
/- Contracts of package shape: Box, Copy, Reach. -/
namespace Go.Proofs.YtjhcejmfiekjgaaGreat.Fx
open Go.ChangeShapes Go.WideShapes Go.ChangeAt Go.RowKit
set_option linter.unusedVariables false
theorem has_next (w : World) (o : Obj) (t : TypeId) (A : Array Value) : Has ((w.alloc o).alloc (.cells A t)) (w.heap.size + 1) t A := by simpa using has_new (w.alloc o) t A
def boxF (a b : Int) : Cs := fun i => (if i = 0 ∨ i = 3 then negF a else a, if i = 0 ∨ i = 1 then negF b else b)
theorem box_is (a b : Int) (w : World) (f : Cs) (ha : I64 a) (hb : I64 b) (hf : ∀ i, i < 4 → boxF a b i = f i) :
  Calls Tryz.prog 146 #[.int .i64 a, .int .i64 b] w fun e w' => ∃ g, e = .returned (shapeV 2 0 (.slice (some ⟨g, 0, none⟩) 4 4)) ∧ w.heap.size ≤ g ∧ Row w' g 26 4 f ∧ Made w.heap.size w w' := by
 have HF := hid hf
 clear hf
 go_enter Tryz.func146, Tryz.ntmps146
 go_wp2_with fail
 refine (neg_c a _ ha).mono ?_
 rintro e w' ⟨rfl, rfl⟩
 go_wp2_with fail
 refine (neg_c b _ hb).mono ?_
 rintro e w' ⟨rfl, rfl⟩
 go_wp2_with fail
 refine bodyPost_ret (v := shapeV 2 0 (.slice (some ⟨w.heap.size + 1, 0, none⟩) 4 4)) (by simp [results, Tryz.results146, go_sem]) rfl ⟨_, rfl, by omega, ?_, ((Made.rfl_ _ _).cells (Nat.le_refl _) _ _).cells (by simp) _ _⟩
 refine Row.congr (f := boxF a b) ?_ HF.out
 refine ⟨_, has_next _ _ _ _, by simp, fun j hj => ?_⟩
 rcases (show j = 0 ∨ j = 1 ∨ j = 2 ∨ j = 3 ∨ j = 4 ∨ j = 5 ∨ j = 6 ∨ j = 7 by omega) with rfl | rfl | rfl | rfl | rfl | rfl | rfl | rfl <;> rfl
theorem clone_is (b off n cap : Nat) (f : Cs) (w : World) (hn : 0 < n) (h8 : n ≤ 8) (hp : Pts w b off n f) :
  Calls Tryz.prog 77 #[.slice (some ⟨b, off, none⟩) n cap] w fun e w' => ∃ g c, e = .returned (.slice (some ⟨g, 0, none⟩) n c) ∧ w.heap.size ≤ g ∧ Row w' g 26 n f ∧ Made w.heap.size w w' := by
 have HP := hid hp
 clear hp
 have q := fun W : World => Lib.run_eql_slice_nil (P := Tryz.prog) W 39 26 (some ⟨b, off, none⟩) n cap 0 0 Tryz.underlying39
 have hb : b < w.heap.size := HP.out.here hn
 have HA : Hid (Made w.heap.size w (w.alloc (.cells #[] 26))) := (Made.rfl_ _ _).cells (Nat.le_refl _) _ _
 have HO : Hid ((w.alloc (.cells #[] 26)).ownsRow w.heap.size 26 2 (.slice (some ⟨w.heap.size, 0, none⟩) 0 0) 0 []) := World.ownsRow_lit w #[] 0 (Nat.le_refl _) (by unfold maxLen; omega) rfl
 obtain ⟨i0, hi, hz0, hz1, hz2⟩ := info_parts info_V
 go_enter Tryz.func77, Tryz.ntmps77
 go_wp2_with (at_builtin; refine wpList_append_made _ rfl (.tmp 5) (.tmp 6) 39 rfl w.heap.size 26 i0 (.agg #[.int .i64 0, .int .i64 0]) 2 16 Tryz.underlying39 hi hz0 hz1 hz2 rfl (by decide) (.slice (some ⟨w.heap.size, 0, none⟩) 0 0) 0 [] rfl HO.out ⟨b, off, none⟩ n cap (flat f n) rfl (flat_len f n) (HP.out.kept HA.out).flat_at (flat_one f n) (by unfold maxLen; omega) (by omega) (by simp) hn ?_)
 intro v' w1 hown hg hf
 obtain ⟨g, c, rfl, hbg, hc, hm, hrow⟩ := Row.of_own hown hn
 have M1 : Hid (Made w.heap.size w w1) := HA.out.app hg hf (by simp) (fun k hk => by simp [Value.ownBlock] at hk; omega)
 have HR := hid hrow
 clear hown hg hf hrow
 go_wp2_with fail
 go_ret
 exact ⟨g, c, rfl, hbg, HR.out, M1.out⟩
theorem copy_is (K R : Int) (b off n cap : Nat) (f : Cs) (w : World) (hn : 0 < n) (h8 : n ≤ 8) (hp : Pts w b off n f) :
  Calls Tryz.prog 40 #[shapeV K R (.slice (some ⟨b, off, none⟩) n cap)] w fun e w' => ∃ g c, e = .returned (shapeV K R (.slice (some ⟨g, 0, none⟩) n c)) ∧ w.heap.size ≤ g ∧ Row w' g 26 n f ∧ Made w.heap.size w w' := by
 have HP : Hid (∀ v, Made w.heap.size w v → Pts v b off n f) := fun v k => hp.kept k
 clear hp
 go_enter Tryz.func40, Tryz.ntmps40
 go_wp2_with fail
 refine (clone_is b off n cap f _ hn h8 (HP.out _ (((Made.rfl_ _ _).cells (Nat.le_refl _) _ _).cells (by simp) _ _))).mono ?_
 rintro e w1 ⟨g, c, rfl, hg, hrow, k1⟩
 have x0 := k1.reads (p := ⟨w.heap.size, 0, none⟩) (x := .int .i64 K) (by go_simp)
 have x1 := k1.reads (p := ⟨w.heap.size, 1, none⟩) (x := .int .i64 R) (by go_simp)
 have x2 := k1.reads (p := ⟨w.heap.size, 2, none⟩) (x := .slice (some ⟨b, off, none⟩) n cap) (by go_simp)
 have m2 : w1.frozen? ⟨w.heap.size, 2, none⟩ = false := (k1.2 _).trans (by go_simp)
 have r0 := k1.reads (p := ⟨w.heap.size + 1, 0, none⟩) (x := .int .i64 0) (by go_simp)
 have r1 := k1.reads (p := ⟨w.heap.size + 1, 1, none⟩) (x := .int .i64 0) (by go_simp)
 have r2 := k1.reads (p := ⟨w.heap.size + 1, 2, none⟩) (x := .slice none 0 0) (by go_simp)
 have n0 : w1.frozen? ⟨w.heap.size + 1, 0, none⟩ = false := (k1.2 _).trans (by go_simp)
 have n1 : w1.frozen? ⟨w.heap.size + 1, 1, none⟩ = false := (k1.2 _).trans (by go_simp)
 have n2 : w1.frozen? ⟨w.heap.size + 1, 2, none⟩ = false := (k1.2 _).trans (by go_simp)
 have hg2 : w.heap.size + 1 < g := by simp at hg; omega
 have M1 := hid (made_box (made_box k1))
 have HR := hid hrow
 have HG := hid hg2
 clear k1 hrow hg hg2
 go_wp2_with fail
 refine bodyPost_ret (v := shapeV K R (.slice (some ⟨g, 0, none⟩) n c)) (by simp [results, Tryz.results40, go_sem, r0, r1, r2]) rfl ⟨g, c, rfl, by have := HG.out; omega, ?_, ?_⟩
 ·have := HG.out
  exact (((HR.out.other _ (by simp; omega) _).other _ (by simp; omega) _).other _ (by simp; omega) _).other _ (by simp; omega) _
 ·exact (((M1.out.put (by simp) _).put (by simp) _).put (by simp) _).put (by simp) _
end Go.Proofs.YtjhcejmfiekjgaaGreat.Fx
/- Worlds in memory: what changes but some blocks; bodies, joints and contacts as lists. -/
namespace Go.Proofs.YtjhcejmfiekjgaaGreat.Fx
open Go.ChangeShapes Go.WideShapes Go.ChangeAt Go.RowKit
set_option linter.unusedVariables false
structure But (X : Nat → Prop) (w v : World) : Prop where
 os : v.os = w.os
 tape : v.tape = w.tape
 output : v.output = w.output
 size : w.heap.size ≤ v.heap.size
 block : ∀ b, b < w.heap.size → ¬ X b → v.heap[b]? = w.heap[b]?
 marks : ∀ a, v.frozen? a = w.frozen? a
def Nil0 : Nat → Prop := fun _ => False
theorem But.rfl_ (X : Nat → Prop) (w : World) : But X w w := ⟨rfl, rfl, rfl, Nat.le_refl _, fun _ _ _ => rfl, fun _ => rfl⟩
theorem But.then_ {X : Nat → Prop} {a b c : World} (h : But X a b) (k : But X b c) : But X a c :=
 ⟨k.os.trans h.os, k.tape.trans h.tape, k.output.trans h.output, Nat.le_trans h.size k.size, fun i hi hx => (k.block i (Nat.lt_of_lt_of_le hi h.size) hx).trans (h.block i hi hx), fun x => (k.marks x).trans (h.marks x)⟩
theorem Made.but {X : Nat → Prop} {w v : World} (h : Made w.heap.size w v) : But X w v :=
 ⟨h.1.os, h.1.tape, h.1.output, h.1.size, fun b hb _ => h.1.block b hb, h.2⟩
theorem But.made_ {X : Nat → Prop} {B : Nat} {a w v : World} (h : Made B a w) (k : But X w v) (hB : B ≤ w.heap.size) (hX : ∀ b, X b → B ≤ b) : Made B a v := by
 refine ⟨⟨k.os.trans h.1.os, k.tape.trans h.1.tape, k.output.trans h.1.output, Nat.le_trans h.1.size k.size, fun b hb => ?_⟩, fun x => (k.marks x).trans (h.2 x)⟩
 exact (k.block b (Nat.lt_of_lt_of_le hb hB) (fun hx => by have := hX b hx; omega)).trans (h.1.block b hb)
theorem But.made {w v : World} (k : But Nil0 w v) : Made w.heap.size w v := But.made_ (Made.rfl_ _ _) k (Nat.le_refl _) (fun _ h => h.elim)
theorem But.up {X Y : Nat → Prop} {w v : World} (k : But X w v) (h : ∀ b, b < w.heap.size → X b → Y b) : But Y w v :=
 ⟨k.os, k.tape, k.output, k.size, fun b hb hy => k.block b hb (fun hx => hy (h b hb hx)), k.marks⟩
theorem But.any {X : Nat → Prop} {w v : World} (k : But Nil0 w v) : But X w v := k.up (fun _ _ h => h.elim)
theorem But.alloc {X : Nat → Prop} {a w : World} (h : But X a w) (c : Array Value) (t : TypeId) : But X a (w.alloc (.cells c t)) :=
 h.then_ (Made.but ((Made.rfl_ _ _).cells (Nat.le_refl _) c t))
theorem But.draws {X : Nat → Prop} {a w : World} (h : But X a w) (n : Nat) : But X a (w.drewN n) := h.then_ (Made.but ((Made.rfl_ _ _).draws n))
theorem But.put {X : Nat → Prop} {a w : World} (h : But X a w) {p : Addr} (hp : X p.block ∨ a.heap.size ≤ p.block) (u : Value) : But X a (w.setCell p u) := by
 have e : (w.setCell p u).heap.size = w.heap.size := by simp [World.setCell]
 refine ⟨h.os, h.tape, h.output, Nat.le_trans h.size (Nat.le_of_eq e.symm), fun b hb hx => ?_, fun x => (World.frozen?_setCell _ _ _ _).trans (h.marks x)⟩
 refine (Below.heap_setCell w p u b ?_).trans (h.block b hb hx)
 rintro rfl
 rcases hp with hp | hp
 ·exact hx hp
 ·omega
theorem But.cell {X : Nat → Prop} {w v : World} (h : But X w v) {p : Addr} {x : Value} (k : w.cell? p = some x) (hx : ¬ X p.block) : v.cell? p = some x :=
 (World.cell?_of_block (h.block p.block (World.block_lt_of_cell? w _ k) hx)).trans k
theorem Has.but {X : Nat → Prop} {w v : World} {g : Nat} {t : TypeId} {cs : Array Value} (h : Has w g t cs) (k : But X w v) (hx : ¬ X g) : Has v g t cs := (k.block g h.here hx).trans h
def Offs (X : Nat → Prop) (ao : Option Addr) : Prop := ∀ b off s, ao = some ⟨b, off, s⟩ → ¬ X b
theorem Offs.nil (ao : Option Addr) : Offs Nil0 ao := fun _ _ _ _ h => h
section
variable {α : Type} {enc : α → List Value} {k : Nat}
theorem LsB.but {X : Nat → Prop} {w v : World} {b off : Nat} {l : List α} (h : LsB enc k w b off l) (kk : But X w v) (hx : ¬ X b) : LsB enc k v b off l := fun i x hi j u hu => kk.cell (h i x hi j u hu) hx
theorem LsT.but {X : Nat → Prop} {w v : World} {ao : Option Addr} {l : List α} (h : LsT enc k w ao l) (kk : But X w v) (hx : Offs X ao) : LsT enc k v ao l := fun hl => by
 obtain ⟨b, off, e, hb, h⟩ := h hl
 exact ⟨b, off, e, Nat.lt_of_lt_of_le hb kk.size, h.but kk (hx b off _ e)⟩
end
theorem Pts.but {X : Nat → Prop} {w v : World} {b off n : Nat} {f : Nat → Int × Int} (h : Pts w b off n f) (k : But X w v) (hx : ¬ X b) : Pts v b off n f := fun i hi => ⟨k.cell (h i hi).1 hx, k.cell (h i hi).2 hx⟩
theorem Sl.but {X : Nat → Prop} {w v : World} {ao : Option Addr} {n : Nat} {f : Cs} (h : Sl w ao n f) (k : But X w v) (hx : Offs X ao) : Sl v ao n f := fun hn => by
 obtain ⟨b, off, e, hp⟩ := h hn
 exact ⟨b, off, e, hp.but k (hx b off _ e)⟩
structure Bd where
 id : Int
 x : Int
 y : Int
 vx : Int
 vy : Int
 an : Int
 sp : Int
 de : Int
 k : Int
 r : Int
 ao : Option Addr
 n : Nat
 c : Nat
 f : Cs
structure Jt where
 id : Int
 a : Int
 b : Int
 ax : Int
 ay : Int
 tx : Int
 ty : Int
 ln : Int
structure Ct where
 a : Int
 b : Int
 key : Int
 n : Int
 t : Int
abbrev bdV (b : Bd) : Value := bodyV b.id b.x b.y b.vx b.vy b.an b.sp b.de b.k b.r (.slice b.ao b.n b.c)
abbrev jtV (j : Jt) : Value := .agg #[.int .i64 j.id, .int .i64 j.a, .int .i64 j.b, .int .i64 j.ax, .int .i64 j.ay, .int .i64 j.tx, .int .i64 j.ty, .int .i64 j.ln]
abbrev ctV (c : Ct) : Value := .agg #[.int .i64 c.a, .int .i64 c.b, .int .i64 c.key, .int .i64 c.n, .int .i64 c.t]
def encB (b : Bd) : List Value := [.int .i64 b.id, .int .i64 b.x, .int .i64 b.y, .int .i64 b.vx, .int .i64 b.vy, .int .i64 b.an, .int .i64 b.sp, .int .i64 b.de, .int .i64 b.k, .int .i64 b.r, .slice b.ao b.n b.c]
def encJ (j : Jt) : List Value := [.int .i64 j.id, .int .i64 j.a, .int .i64 j.b, .int .i64 j.ax, .int .i64 j.ay, .int .i64 j.tx, .int .i64 j.ty, .int .i64 j.ln]
def encC (c : Ct) : List Value := [.int .i64 c.a, .int .i64 c.b, .int .i64 c.key, .int .i64 c.n, .int .i64 c.t]
theorem encB_len (b : Bd) : (encB b).length = 11 := rfl
theorem encJ_len (j : Jt) : (encJ j).length = 8 := rfl
theorem encC_len (c : Ct) : (encC c).length = 5 := rfl
theorem encB_one (x : Bd) : ∀ v ∈ encB x, v.oneCell' = true := by
 intro v hv; simp [encB] at hv; rcases hv with rfl | rfl | rfl | rfl | rfl | rfl | rfl | rfl | rfl | rfl | rfl <;> rfl
theorem encJ_one (x : Jt) : ∀ v ∈ encJ x, v.oneCell' = true := by
 intro v hv; simp [encJ] at hv; rcases hv with rfl | rfl | rfl | rfl | rfl | rfl | rfl | rfl <;> rfl
theorem encC_one (x : Ct) : ∀ v ∈ encC x, v.oneCell' = true := by
 intro v hv; simp [encC] at hv; rcases hv with rfl | rfl | rfl | rfl | rfl <;> rfl
theorem ElT.b11 {w : World} {b o : Nat} {x : Bd} (h : ElT encB w b o x) : w.cell? ⟨b, o, none⟩ = some (.int .i64 x.id) ∧ w.cell? ⟨b, o + 1, none⟩ = some (.int .i64 x.x) ∧ w.cell? ⟨b, o + 2, none⟩ = some (.int .i64 x.y) ∧ w.cell? ⟨b, o + 3, none⟩ = some (.int .i64 x.vx) ∧ w.cell? ⟨b, o + 4, none⟩ = some (.int .i64 x.vy) ∧ w.cell? ⟨b, o + 5, none⟩ = some (.int .i64 x.an) ∧ w.cell? ⟨b, o + 6, none⟩ = some (.int .i64 x.sp) ∧ w.cell? ⟨b, o + 7, none⟩ = some (.int .i64 x.de) ∧ w.cell? ⟨b, o + 8, none⟩ = some (.int .i64 x.k) ∧ w.cell? ⟨b, o + 9, none⟩ = some (.int .i64 x.r) ∧ w.cell? ⟨b, o + 10, none⟩ = some (.slice x.ao x.n x.c) :=
 ⟨h 0 _ rfl, h 1 _ rfl, h 2 _ rfl, h 3 _ rfl, h 4 _ rfl, h 5 _ rfl, h 6 _ rfl, h 7 _ rfl, h 8 _ rfl, h 9 _ rfl, h 10 _ rfl⟩
theorem ElT.j8 {w : World} {b o : Nat} {x : Jt} (h : ElT encJ w b o x) : w.cell? ⟨b, o, none⟩ = some (.int .i64 x.id) ∧ w.cell? ⟨b, o + 1, none⟩ = some (.int .i64 x.a) ∧ w.cell? ⟨b, o + 2, none⟩ = some (.int .i64 x.b) ∧ w.cell? ⟨b, o + 3, none⟩ = some (.int .i64 x.ax) ∧ w.cell? ⟨b, o + 4, none⟩ = some (.int .i64 x.ay) ∧ w.cell? ⟨b, o + 5, none⟩ = some (.int .i64 x.tx) ∧ w.cell? ⟨b, o + 6, none⟩ = some (.int .i64 x.ty) ∧ w.cell? ⟨b, o + 7, none⟩ = some (.int .i64 x.ln) :=
 ⟨h 0 _ rfl, h 1 _ rfl, h 2 _ rfl, h 3 _ rfl, h 4 _ rfl, h 5 _ rfl, h 6 _ rfl, h 7 _ rfl⟩
theorem ElT.c5 {w : World} {b o : Nat} {x : Ct} (h : ElT encC w b o x) : w.cell? ⟨b, o, none⟩ = some (.int .i64 x.a) ∧ w.cell? ⟨b, o + 1, none⟩ = some (.int .i64 x.b) ∧ w.cell? ⟨b, o + 2, none⟩ = some (.int .i64 x.key) ∧ w.cell? ⟨b, o + 3, none⟩ = some (.int .i64 x.n) ∧ w.cell? ⟨b, o + 4, none⟩ = some (.int .i64 x.t) :=
 ⟨h 0 _ rfl, h 1 _ rfl, h 2 _ rfl, h 3 _ rfl, h 4 _ rfl⟩
structure BdI (b : Bd) : Prop where
 id : I64 b.id
 x : I64 b.x
 y : I64 b.y
 vx : I64 b.vx
 vy : I64 b.vy
 an : I64 b.an
 sp : I64 b.sp
 de : I64 b.de
 k : I64 b.k
 r : I64 b.r
 f : Cin b.f b.n
def JtI (j : Jt) : Prop := I64 j.id ∧ I64 j.a ∧ I64 j.b ∧ I64 j.ax ∧ I64 j.ay ∧ I64 j.tx ∧ I64 j.ty ∧ I64 j.ln
def CtI (c : Ct) : Prop := I64 c.a ∧ I64 c.b ∧ I64 c.key ∧ I64 c.n ∧ I64 c.t
def Inn (a m : Int) : Prop := -m ≤ a ∧ a ≤ m
structure BodyP (b : Bd) : Prop where
 shape : RightP b.k b.r b.n b.f
 x : Inn b.x 4503599627370496
 y : Inn b.y 4503599627370496
 vx : Inn b.vx 17592186044416
 vy : Inn b.vy 17592186044416
 sp : Inn b.sp 1099511627776
 an : 0 ≤ b.an ∧ b.an ≤ 4294967295
 de : 0 ≤ b.de ∧ b.de ≤ 4398046511104
 still : b.de = 0 → b.vx = 0 ∧ b.vy = 0 ∧ b.sp = 0
structure JointP (j : Jt) : Prop where
 ax : Inn j.ax 274877906944
 ay : Inn j.ay 274877906944
 tx : Inn j.tx 274877906944
 ty : Inn j.ty 274877906944
 ln : 0 ≤ j.ln ∧ j.ln ≤ 4503599627370496
 a : 1 ≤ j.a
 b : 1 ≤ j.b
 ab : j.a ≠ j.b
def NumP (ids : List Int) (next : Int) : Prop := 1 ≤ next ∧ next ≤ 4611686018427387904 ∧ ids.Pairwise (· < ·) ∧ ∀ i ∈ ids, 1 ≤ i ∧ i < next
def LtC (x y : Ct) : Prop := x.a < y.a ∨ x.a = y.a ∧ (x.b < y.b ∨ x.b = y.b ∧ x.key < y.key)
structure BodiesP (B : List Bd) (nb : Int) : Prop where
 len : B.length ≤ 1024
 all : ∀ b ∈ B, BodyP b
 num : NumP (B.map (·.id)) nb
structure JointsP (B : List Bd) (J : List Jt) (nj : Int) : Prop where
 len : J.length ≤ 1024
 all : ∀ j ∈ J, JointP j ∧ j.a ∈ B.map (·.id) ∧ j.b ∈ B.map (·.id)
 num : NumP (J.map (·.id)) nj
structure ContactsP (B : List Bd) (C : List Ct) : Prop where
 all : ∀ c ∈ C, c.a < c.b ∧ 0 ≤ c.key ∧ 0 ≤ c.n ∧ c.a ∈ B.map (·.id) ∧ c.b ∈ B.map (·.id)
 up : C.Pairwise LtC
end Go.Proofs.YtjhcejmfiekjgaaGreat.Fx