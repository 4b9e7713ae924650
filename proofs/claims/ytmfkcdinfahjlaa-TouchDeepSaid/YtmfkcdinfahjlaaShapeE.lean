/- Contracts of package shape: Normals. -/
import Derived.Test.YtmfkcdinfahjlaaShapes
namespace Go.Proofs.Ytmfkcdinfahjlaa.Fx
open Go.ChangeShapes Go.WideShapes Go.ChangeAt Go.RowKit
set_option linter.unusedVariables false

theorem unitV_uF (a b : Int) : unitV a b = .tuple #[vecV (uF a b).1 (uF a b).2, .bool (decide (lenF a b ≠ 0))] := by
  unfold unitV uF
  by_cases h : lenF a b = 0
  · rw [if_pos h, if_pos h]; simp [h]
  · rw [if_neg h, if_neg h]; simp [h]
theorem i64_u (a b : Int) : I64 (uF a b).1 ∧ I64 (uF a b).2 := by
  unfold uF; split
  · simp only []; unfold I64; omega
  · exact ⟨i64_div _ _, i64_div _ _⟩
theorem neg_is (a r : Int) (w : World) (ha : I64 a) (e : negF a = r) : Calls Try.prog 33 #[.int .i64 a] w fun e w' => e = .returned (.int .i64 r) ∧ w = w' := by subst e; exact neg_c a w ha

set_option maxRecDepth 100000 in
set_option maxHeartbeats 2000000 in
theorem normals_none (w : World) :
    Calls Try.prog 74 #[.slice none 0 0] w fun e w' => ∃ g, e = .returned (.slice (some ⟨g, 0, none⟩) 0 0) ∧ Made w.heap.size w w' := by
  have mk : ∀ W : World, _ := fun W => make_V 0 (by omega) W
  simp only [Int.cast_ofNat_Int, Nat.zero_mul] at mk
  go_enter Try.func74, Try.ntmps74
  go_wp2_with fail
  go_loopg [13] 0 (fun g t wr => t = .int .i64 0 ∧ Hid (Made w.heap.size w wr))
  case atStart => exact ⟨rfl, (Made.rfl_ _ _).cells (Nat.le_refl _) _ _⟩
  case round =>
    obtain ⟨rfl, HM⟩ := hrel
    go_wp2_with fail
    go_ret
    exact ⟨_, rfl, HM.out⟩

set_option maxRecDepth 100000 in
set_option maxHeartbeats 4000000 in
theorem normals_is (b off n cap : Nat) (f : Cs) (w : World) (hn : 0 < n) (h8 : n ≤ 8) (hp : Pts w b off n f) (hi : Cin f n) :
    Calls Try.prog 74 #[.slice (some ⟨b, off, none⟩) n cap] w fun e w' =>
      ∃ g, e = .returned (.slice (some ⟨g, 0, none⟩) n n) ∧ w.heap.size ≤ g ∧ Row w' g 26 n (normF f n) ∧ Made w.heap.size w w' := by
  have HP := hid hp
  have HI := hid hi
  have hbw : b < w.heap.size := hp.here hn
  clear hp hi
  have mk := make_V n h8
  go_enter Try.func74, Try.ntmps74
  go_wp2_with fail
  obtain ⟨G, eG⟩ : ∃ G, w.heap.size = G := ⟨_, rfl⟩
  obtain ⟨W0, eW⟩ : ∃ W, W = w.alloc (.cells (madeCells #[.int .i64 0, .int .i64 0] (n * 2)) 26) := ⟨_, rfl⟩
  have R0 : Hid (Row W0 G 26 n (upto (normF f n) 0)) := by
    unfold Hid
    rw [eW, ← eG]
    exact (made_V w n).congr fun i _ => by unfold upto; rw [if_neg (by omega)]
  have M0 : Hid (Made G w W0) := by unfold Hid; rw [eW, ← eG]; exact (Made.rfl_ _ _).cells (Nat.le_refl _) _ _
  have hbG : b < G := by omega
  rw [eG, ← eW]
  have EG := hid eG
  clear eG eW mk
  go_loopg [13] n (fun g t wr => ∃ m : Nat, m + g = n ∧ t = .int .i64 m ∧ Hid (Row wr G 26 n (upto (normF f n) m)) ∧ Hid (Made G w wr))
  case atStart => exact ⟨0, by omega, rfl, R0, M0⟩
  case round =>
    obtain ⟨m, hm, rfl, HR, HM⟩ := hrel
    by_cases hlt : m < n
    · obtain ⟨x, ex⟩ : ∃ x, (f m).1 = x := ⟨_, rfl⟩
      obtain ⟨y, ey⟩ : ∃ y, (f m).2 = y := ⟨_, rfl⟩
      obtain ⟨ix, iy⟩ := HI.out m hlt
      obtain ⟨c0, c1⟩ := HP.out m hlt
      rw [ex] at ix c0
      rw [ey] at iy c1
      have c0 := HM.out.at_ (by exact hbG) c0
      have c1 := HM.out.at_ (by exact hbG) c1
      have EX := hid ex
      have EY := hid ey
      clear ex ey
      have hl : (m + 1) % n < n := Nat.mod_lt _ (by omega)
      obtain ⟨l, el⟩ : ∃ l, (m + 1) % n = l := ⟨_, rfl⟩
      rw [el] at hl
      have EL := hid el
      clear el
      obtain ⟨x', ex'⟩ : ∃ x, (f l).1 = x := ⟨_, rfl⟩
      obtain ⟨y', ey'⟩ : ∃ y, (f l).2 = y := ⟨_, rfl⟩
      obtain ⟨ix', iy'⟩ := HI.out l hl
      obtain ⟨d0, d1⟩ := HP.out l hl
      rw [ex'] at ix' d0
      rw [ey'] at iy' d1
      have d0 := HM.out.at_ (by exact hbG) d0
      have d1 := HM.out.at_ (by exact hbG) d1
      have EX' := hid ex'
      have EY' := hid ey'
      clear ex' ey'
      obtain ⟨u, eu⟩ : ∃ u, subF x' x = u := ⟨_, rfl⟩
      obtain ⟨v, ev⟩ : ∃ v, subF y' y = v := ⟨_, rfl⟩
      have iu : I64 u := by rw [← eu]; exact i64_sub _ _
      have iv : I64 v := by rw [← ev]; exact i64_sub _ _
      have EU := hid eu
      have EV := hid ev
      clear eu ev
      obtain ⟨ip, iq⟩ := i64_u u v
      have eun := unitV_uF u v
      obtain ⟨p, ep⟩ : ∃ p, (uF u v).1 = p := ⟨_, rfl⟩
      obtain ⟨q, eq⟩ : ∃ q, (uF u v).2 = q := ⟨_, rfl⟩
      obtain ⟨ok, eok⟩ : ∃ ok, decide (lenF u v ≠ 0) = ok := ⟨_, rfl⟩
      rw [ep, eq, eok] at eun
      rw [ep] at ip
      rw [eq] at iq
      obtain ⟨p', ep'⟩ : ∃ p', negF p = p' := ⟨_, rfl⟩
      have HN : Hid (normF f n m = (q, p')) := by
        unfold Hid normF
        simp only []
        rw [EL.out, EX.out, EY.out, EX'.out, EY'.out, EU.out, EV.out, eq, ep, ep']
      have EUN := hid eun
      have EP' := hid ep'
      clear ep eq eok eun ep'
      have hGr : G < wr.heap.size := HR.out.here
      go_wp2_with fail
      refine reg_late1 9 38 8 6 26 #[.int .i64 0, .int .i64 0] _ (by kernel_rfl) (by kernel_rfl) (fun o ho => by cases ho; exact extract_pure rfl) (.inl (by omega)) (by kernel_rfl) rfl rfl alc_V ?_
      apply Exists.intro
      refine ⟨?h1, ?h2⟩
      case h1 =>
        intro T hT fw hf
        have a0 := Class.reads hf (p := ⟨wr.heap.size, 0, none⟩) (u := .int .i64 x) (by go_simp)
        have a1 := Class.reads hf (p := ⟨wr.heap.size, 1, none⟩) (u := .int .i64 y) (by go_simp)
        have b0 := Class.reads hf (cell_more d0)
        have b1 := Class.reads hf (cell_more d1)
        simp only [List.take_succ_cons, List.take_zero]
        repeat (go_big_quiet_step ((first
          | (go_at_call 96; with_reducible exact hf.made (after_is b off n cap m 1 l x' y' _ (by omega) h8 (by omega) (by omega) EL.out (by apply b0) (by apply b1)))
          | (go_at_call 29; with_reducible exact hf.made (vsub_is _ _ _ _ _ _ _ (by assumption) (by assumption) (by assumption) (by assumption) EU.out EV.out))
          | (go_at_call 44; with_reducible exact hf.made (vunit_is _ _ _ _ (by assumption) (by assumption) EUN.out)))))
        exact wpQuiet_nil rfl
      intro g w3 k3' hg hh
      have k3 := made_box k3'
      have hg1 : wr.heap.size < g := by simp at hg; omega
      have hGg : G < g := by omega
      have R3 : Hid (Row w3 G 26 n (upto (normF f n) m)) := HR.out.stays k3 hGr
      have M3 : Hid (Made G w w3) := HM.out.then_ (k3.low (Nat.le_of_lt hGr))
      have z0 := hh.at_ 0
      have z1 := hh.at_ 1
      simp at z0 z1
      have zf : ∀ i, w3.frozen? ⟨g, i, none⟩ = false := fun i => hh.free i
      have hgs := hh.here
      clear k3 k3' c0 c1 d0 d1 hh hg
      simp only [List.drop_succ_cons, List.drop_zero]
      go_wp2_with fail
      refine NoPanic.normal ?_
      go_wp2_with fail
      obtain ⟨W1, eW⟩ : ∃ W, W = (w3.setCell ⟨g, 0, none⟩ (.int .i64 p)).setCell ⟨g, 1, none⟩ (.int .i64 q) := ⟨_, rfl⟩
      have f0 : W1.cell? ⟨g, 0, none⟩ = some (.int .i64 p) := by rw [eW]; go_simp
      have f1 : W1.cell? ⟨g, 1, none⟩ = some (.int .i64 q) := by rw [eW]; go_simp
      have R4 : Hid (Row W1 G 26 n (upto (normF f n) m)) := by
        unfold Hid; rw [eW]
        exact (R3.out.other _ (by simp; omega) _).other _ (by simp; omega) _
      have M4 : Hid (Made G w W1) := by unfold Hid; rw [eW]; exact (M3.out.put (by simp; omega) _).put (by simp; omega) _
      rw [← eW]
      clear eW z0 z1 zf
      refine reg_made_tail 9 (by kernel_rfl) (by kernel_rfl) ?_
      intro T hT fw hf
      have a0 := Class.reads hf f0
      have a1 := Class.reads hf f1
      simp only [List.take_succ_cons, List.take_zero, List.drop_succ_cons, List.drop_zero]
      repeat (go_big_quiet_step ((go_at_call 33; with_reducible exact hf.same (neg_is _ _ _ (by assumption) EP'.out))))
      refine wpQuiet_nil ?_
      intro w5 h5
      have k5 := hf.here h5
      have R5 : Hid (Row w5 G 26 n (upto (normF f n) m)) := R4.out.kept k5
      have M5 : Hid (Made G w w5) := M4.out.then_ (k5.low (Nat.le_of_lt R4.out.here))
      have r0 := (R5.out.pts m hlt).1
      have r1 := (R5.out.pts m hlt).2
      rw [Nat.zero_add] at r0 r1
      have fz : ∀ i, w5.frozen? ⟨G, i, none⟩ = false := R5.out.free
      clear k5 h5 hf a0 a1 f0 f1
      go_wp2_with fail
      go_roundg (n - m - 1)
      case rel =>
        refine ⟨m + 1, by omega, by go_num, (R5.out.put hlt q p').congr fun i hi => ?_, (M5.out.put (by simp) _).put (by simp) _⟩
        exact upto_next _ _ (by rw [HN.out]) (by rw [HN.out]) i
      case measure => omega
    · go_wp2_with fail
      go_ret
      have e : m = n := by omega
      subst e
      refine ⟨G, rfl, Nat.le_of_eq EG.out, HR.out.congr fun i hi => upto_all _ _ _ hi, ?_⟩
      rw [EG.out]; exact HM.out
end Go.Proofs.Ytmfkcdinfahjlaa.Fx
