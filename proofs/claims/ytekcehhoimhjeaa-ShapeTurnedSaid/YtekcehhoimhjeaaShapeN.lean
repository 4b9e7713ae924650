/- ShapeTurned: the walk. -/
import Derived.Test.YtekcehhoimhjeaaShapeH
import Derived.Test.YtekcehhoimhjeaaFlm
import Derived.Deep.DeepCutAuto
namespace Go.Proofs.Ytekcehhoimhjeaa.Fx
open Go.ChangeShapes Go.WideShapes Go.ChangeAt Go.RowKit
set_option linter.unusedVariables false

theorem alc_S {d : Tmp} {ty : TypeId} {ps : String} {af : Array Edge} : Alc Try.prog { dst := some d, op := .alloc 25, type := ty, pos := ps, after := af, guard := none } d 25 #[.int .i64 0, .int .i64 0, .slice none 0 0] :=
  ⟨rfl, rfl, fun a w => by go_simp⟩
/-- what the two copies and their two variables are -/
def al6 (n : Nat) (F : Cs) (i : Nat) (v : World) (g : Nat) : Prop := if i = 1 ∨ i = 3 then Row v g 33 n F else Has v g 25 #[.int .i64 0, .int .i64 0, .slice none 0 0]
def val6 (n : Nat) (i g e : Nat) : Value := if i = 1 ∨ i = 3 then shapeV 2 0 (.slice (some ⟨g, 0, none⟩) n e) else .pointer (some ⟨g, 0, none⟩)
theorem al6_lasts (n : Nat) (F : Cs) : Lasts (al6 n F) := by
  intro i u v g h hg k
  unfold al6 at h ⊢
  split at h
  · rename_i hi; rw [if_pos hi]; exact h.stays k hg
  · rename_i hi; rw [if_neg hi]; exact h.stays k hg
theorem two_ne : (2 : Int) ≠ 1 := by decide
def mixF (F H : Cs) (m : Nat) : Cs := fun i => if i < m then H i else F i
theorem mix_next (F H : Cs) (m : Nat) {x y : Int} (hx : (H m).1 = x) (hy : (H m).2 = y) (i : Nat) : (fun j => if j = m then (x, y) else mixF F H m j) i = mixF F H (m + 1) i := by
  subst hx; subst hy
  unfold mixF
  simp only []
  by_cases h : i = m
  · subst h; rw [if_pos rfl, if_pos (by omega)]
  · rw [if_neg h]
    by_cases h1 : i < m
    · rw [if_pos h1, if_pos (by omega)]
    · rw [if_neg h1, if_neg (by omega)]
theorem mix_all (F H : Cs) (n i : Nat) (h : i < n) : mixF F H n i = H i := by unfold mixF; rw [if_pos h]

set_option maxRecDepth 100000 in
set_option maxHeartbeats 8000000 in
theorem sturned_walk (a b c d N : Int) (w : World) :
    Calls Try.prog 6 #[seedV a b c d, .int .i64 N] w fun e w' => e = .returned (.bool true) ∧ Made w.heap.size w w' := by
  obtain ⟨t, et⟩ : ∃ t : Nat, N % 256 = (t : Int) := ⟨(N % 256).toNat, by omega⟩
  have t1 : t ≤ 255 := by omega
  have aN := and8 N
  rw [et] at aN
  clear et
  go_enter Try.func6, Try.ntmps6
  go_wp2_with fail
  refine (sfit_c _).mono ?_
  rintro e w1 ⟨rfl, k1⟩
  have y0 := k1.reads (p := ⟨w.heap.size, 0, none⟩) (x := .int .i64 a) (by go_simp)
  have y1 := k1.reads (p := ⟨w.heap.size, 1, none⟩) (x := .int .i64 b) (by go_simp)
  have y2 := k1.reads (p := ⟨w.heap.size, 2, none⟩) (x := .int .i64 c) (by go_simp)
  have y3 := k1.reads (p := ⟨w.heap.size, 3, none⟩) (x := .int .i64 d) (by go_simp)
  have M1 := hid (made_box k1)
  clear k1
  go_wp2_with fail
  refine (seed_is a b c d _).mono ?_
  rintro e w2 ⟨h, k2⟩
  have M2 : Hid (Made w.heap.size w w2) := M1.out.then_ (k2.low M1.out.1.size)
  clear k2 y0 y1 y2 y3
  rcases h with ⟨R, R0, R1, rfl⟩ | ⟨g, cap, n, gx, gy, gk, gr, rfl, hg, hrow⟩
  · have hR : Hid (RightP 1 R 0 (fun _ => (0, 0))) := .inl ⟨rfl, rfl, by omega, by omega⟩
    go_wp2_with fail
    refine (right_circle R none 0 0 _ _ true (yes_iff hR.out)).mono ?_
    rintro e w3 ⟨rfl, k3⟩
    have M3 : Hid (Made w.heap.size w w3) := M2.out.then_ (made_box k3 |>.low M2.out.1.size)
    clear k3
    go_wp2_with fail
    go_ret
    exact ⟨rfl, M3.out⟩
  · have n0 := gr.n0
    have n1 := gr.n1
    have hn0 : (n : Int) ≠ 0 := by omega
    have hnb : ((n : Int) == 0) = false := by simpa using hn0
    have hgs := hrow.here
    have GI := hid (grid_i64 gr)
    have RA := hid (grid_right (grid_turn gr t))
    have RB := hid (grid_back gr)
    obtain ⟨F, eF⟩ : ∃ F, grid gx gy gk = F := ⟨_, rfl⟩
    obtain ⟨FA, eA⟩ : ∃ FA : Cs, (fun i => F ((i + t) % n)) = FA := ⟨_, rfl⟩
    obtain ⟨FB, eB⟩ : ∃ FB : Cs, (fun i => F (n - 1 - i)) = FB := ⟨_, rfl⟩
    rw [← turned_eq, eF, eA] at RA
    rw [eF] at hrow GI RB
    rw [eB] at RB
    obtain ⟨r, hr⟩ := top_has F n
    have TF := hid hr
    have TA : Hid (Top FA n r) := by
      rw [← eA]
      refine top_same hr (fun i hi => ⟨(i + t) % n, Nat.mod_lt _ (by omega), rfl⟩) (fun i hi => ⟨(i + n - t % n) % n, Nat.mod_lt _ (by omega), ?_⟩)
      show F i = F (((i + n - t % n) % n + t) % n)
      congr 1
      rcases (show n = 3 ∨ n = 4 ∨ n = 5 ∨ n = 6 ∨ n = 7 ∨ n = 8 by omega) with rfl | rfl | rfl | rfl | rfl | rfl <;> omega
    have TB : Hid (Top FB n r) := by
      rw [← eB]
      refine top_same hr (fun i hi => ⟨n - 1 - i, by omega, rfl⟩) (fun i hi => ⟨n - 1 - i, by omega, ?_⟩)
      show F i = F (n - 1 - (n - 1 - i))
      congr 1
      omega
    have IA : Hid (Cin FA n) := by rw [← eA]; exact fun i hi => GI.out _ (Nat.mod_lt _ (by omega))
    have IB : Hid (Cin FB n) := by rw [← eB]; exact fun i hi => GI.out _ (by omega)
    have EA := hid eA
    have EB := hid eB
    have RW := hid hrow
    clear gr hg hrow eF eA eB hr
    go_wp2_with fail
    obtain ⟨wS, eS⟩ : ∃ W, W = w2.alloc (.cells #[.int .i64 2, .int .i64 0, .slice (some ⟨g, 0, none⟩) n cap] 25) := ⟨_, rfl⟩
    have s0 : wS.cell? ⟨w2.heap.size, 0, none⟩ = some (.int .i64 2) := by rw [eS]; go_simp
    have s1 : wS.cell? ⟨w2.heap.size, 1, none⟩ = some (.int .i64 0) := by rw [eS]; go_simp
    have s2 : wS.cell? ⟨w2.heap.size, 2, none⟩ = some (.slice (some ⟨g, 0, none⟩) n cap) := by rw [eS]; go_simp
    have MS : Hid (Made w.heap.size w wS) := by unfold Hid; rw [eS]; exact M2.out.cells M2.out.1.size _ _
    have PS : Hid (Row wS g 33 n F) := by unfold Hid; rw [eS]; exact RW.out.more _
    have b2 : w2.heap.size < wS.heap.size := World.block_lt_of_cell? _ _ s0
    have bg : g < wS.heap.size := PS.out.here
    rw [← eS]
    clear eS
    refine region_makes 6 81 [0, 2] [1, 3, 4, 5] (al6 n F) (val6 n) (by kernel_rfl) (al6_lasts n F) (by kernel_rfl) rfl (by kernel_rfl) rfl ?_
    apply Exists.intro
    refine ⟨?h1, ?h2⟩
    case h1 =>
      intro T hT fw hf
      have s0 := Class.reads hf s0
      have s1 := Class.reads hf s1
      have s2 := Class.reads hf s2
      change wpQuiet _ _ _ _ [_, _] _
      repeat (go_big_quiet_step (fail))
      exact wpQuiet_nil rfl
    have S0 := hid s0; have S1 := hid s1; have S2 := hid s2
    clear s0 s1 s2
    have cpy : Hid (∀ (i : Nat) (G : Nat → Option Nat) (u : World), (i = 1 ∨ i = 3) → ClM wS (al6 n F) G u → MkUpon Try.prog wS (al6 n F) (val6 n) i G (.ok (.enter 22 #[shapeV 2 0 (.slice (some ⟨g, 0, none⟩) n cap)]) u)) := by
      intro i G u hi hu
      refine (copy_is 2 0 g 0 n cap F u (by omega) n1 (PS.out.kept hu.1).pts).mono ?_
      rintro e u' ⟨g', c', rfl, hg', hrow', k'⟩
      refine ⟨g', c', by unfold val6; rw [if_pos hi], hu.next (al6_lasts n F) k' hg' hrow'.here ?_⟩
      unfold al6; rw [if_pos hi]; exact hrow'
    have alc : Hid (∀ (i : Nat) (G : Nat → Option Nat) (u : World), ¬ (i = 1 ∨ i = 3) → ClM wS (al6 n F) G u → MkUpon Try.prog wS (al6 n F) (val6 n) i G (.ok (.value (.pointer (some ⟨u.heap.size, 0, none⟩))) (u.alloc (.cells #[.int .i64 0, .int .i64 0, .slice none 0 0] 25)))) := by
      intro i G u hi hu
      refine ⟨u.heap.size, 0, by unfold val6; rw [if_neg hi], hu.next (al6_lasts n F) ((Made.rfl_ _ _).cells (Nat.le_refl _) _ _) (Nat.le_refl _) (by simp) ?_⟩
      unfold al6; rw [if_neg hi]; exact has_new _ _ _
    refine ⟨_, 20, rfl, ⟨rfl, rfl, fun G u hu => ?mk1⟩, fun g1 e1 => ⟨_, 22, rfl, ⟨rfl, rfl, fun G u hu => ?mk2⟩, fun g2 e2 => ⟨_, 6, rfl, ⟨rfl, rfl, fun G u hu => ?mk3⟩, fun g3 e3 => ⟨_, 7, rfl, ⟨rfl, rfl, fun G u hu => ?mk4⟩, fun g4 e4 => ?rest⟩⟩⟩⟩
    case mk1 =>
      rw [show (execOp _ _).run Try.prog u = .ok (.enter 22 #[shapeV 2 0 (.slice (some ⟨g, 0, none⟩) n cap)]) u by kernel_rfl]
      exact cpy.out 1 G u (.inl rfl) hu
    case mk2 =>
      rw [show (execOp _ _).run Try.prog u = .ok (.enter 22 #[shapeV 2 0 (.slice (some ⟨g, 0, none⟩) n cap)]) u by kernel_rfl]
      exact cpy.out 3 G u (.inr rfl) hu
    case mk3 =>
      change MkUpon _ _ _ _ _ _ (Sem.run _ (execOp (Act.eval _) { dst := some 6, op := .alloc 25, type := _, pos := _, after := _, guard := none }) u)
      rw [alc_S.runs]
      exact alc.out 4 G u (by omega) hu
    case mk4 =>
      change MkUpon _ _ _ _ _ _ (Sem.run _ (execOp (Act.eval _) { dst := some 7, op := .alloc 25, type := _, pos := _, after := _, guard := none }) u)
      rw [alc_S.runs]
      exact alc.out 5 G u (by omega) hu
    case rest =>
      clear cpy alc
      intro u hu
      have q1 : upd (upd (upd (upd (fun _ => none) 1 g1) 3 g2) 4 g3) 5 g4 1 = some g1 := by unfold upd; simp
      have q3 : upd (upd (upd (upd (fun _ => none) 1 g1) 3 g2) 4 g3) 5 g4 3 = some g2 := by unfold upd; simp
      have q4 : upd (upd (upd (upd (fun _ => none) 1 g1) 3 g2) 4 g3) 5 g4 4 = some g3 := by unfold upd; simp
      have q5 : upd (upd (upd (upd (fun _ => none) 1 g1) 3 g2) 4 g3) 5 g4 5 = some g4 := by unfold upd; simp
      have f1 : Row u g1 33 n F := (hu.2.1 1 g1 q1).2.2
      have f2 : Row u g2 33 n F := (hu.2.1 3 g2 q3).2.2
      have f3 : Has u g3 25 #[.int .i64 0, .int .i64 0, .slice none 0 0] := (hu.2.1 4 g3 q4).2.2
      have f4 : Has u g4 25 #[.int .i64 0, .int .i64 0, .slice none 0 0] := (hu.2.1 5 g4 q5).2.2
      have l1 := (hu.2.1 1 g1 q1).1
      have l2 := (hu.2.1 3 g2 q3).1
      have l3 := (hu.2.1 4 g3 q4).1
      have l4 := (hu.2.1 5 g4 q5).1
      have d12 : g1 ≠ g2 := fun e => absurd (hu.2.2 1 3 g1 q1 (by rw [q3, e])) (by omega)
      have d13 : g1 ≠ g3 := fun e => absurd (hu.2.2 1 4 g1 q1 (by rw [q4, e])) (by omega)
      have d14 : g1 ≠ g4 := fun e => absurd (hu.2.2 1 5 g1 q1 (by rw [q5, e])) (by omega)
      have d23 : g2 ≠ g3 := fun e => absurd (hu.2.2 3 4 g2 q3 (by rw [q4, e])) (by omega)
      have d24 : g2 ≠ g4 := fun e => absurd (hu.2.2 3 5 g2 q3 (by rw [q5, e])) (by omega)
      have d34 : g3 ≠ g4 := fun e => absurd (hu.2.2 4 5 g3 q4 (by rw [q5, e])) (by omega)
      have MU := hid hu.1
      have z30 := f3.at_ 0
      have z31 := f3.at_ 1
      have z32 := f3.at_ 2
      have z40 := f4.at_ 0
      have z41 := f4.at_ 1
      have z42 := f4.at_ 2
      simp at z30 z31 z32 z40 z41 z42
      have zf3 : ∀ i, u.frozen? ⟨g3, i, none⟩ = false := fun i => f3.free i
      have zf4 : ∀ i, u.frozen? ⟨g4, i, none⟩ = false := fun i => f4.free i
      have F1 := hid f1; have F2 := hid f2; have F3 := hid f3; have F4 := hid f4
      have d43 : g4 ≠ g3 := fun e => d34 e.symm
      clear hu q1 q3 q4 q5 f1 f2 f3 f4
      rw [show val6 n 1 g1 e1 = shapeV 2 0 (.slice (some ⟨g1, 0, none⟩) n e1) from rfl, show val6 n 3 g2 e2 = shapeV 2 0 (.slice (some ⟨g2, 0, none⟩) n e2) from rfl, show val6 n 4 g3 e3 = .pointer (some ⟨g3, 0, none⟩) from rfl, show val6 n 5 g4 e4 = .pointer (some ⟨g4, 0, none⟩) from rfl]
      simp only [List.drop_succ_cons, List.drop_zero]
      go_upto_region 7 with fail
      obtain ⟨W0, eW⟩ : ∃ W, W = ((((((u.setCell ⟨g3, 0, none⟩ (.int .i64 2)).setCell ⟨g3, 1, none⟩ (.int .i64 0)).setCell ⟨g3, 2, none⟩ (.slice (some ⟨g1, 0, none⟩) n e1)).setCell ⟨g4, 0, none⟩ (.int .i64 2)).setCell ⟨g4, 1, none⟩ (.int .i64 0)).setCell ⟨g4, 2, none⟩ (.slice (some ⟨g2, 0, none⟩) n e2)) := ⟨_, rfl⟩
      have H3 : Hid (Has W0 g3 25 #[.int .i64 2, .int .i64 0, .slice (some ⟨g1, 0, none⟩) n e1]) := by
        unfold Hid; rw [eW]
        exact (((((F3.out.put 0 (.int .i64 2)).put 1 (.int .i64 0)).put 2 (.slice (some ⟨g1, 0, none⟩) n e1)).other ⟨g4, 0, none⟩ d34 _).other ⟨g4, 1, none⟩ d34 _).other ⟨g4, 2, none⟩ d34 _
      have H4 : Hid (Has W0 g4 25 #[.int .i64 2, .int .i64 0, .slice (some ⟨g2, 0, none⟩) n e2]) := by
        unfold Hid; rw [eW]
        exact (((((F4.out.other ⟨g3, 0, none⟩ d43 _).other ⟨g3, 1, none⟩ d43 _).other ⟨g3, 2, none⟩ d43 _).put 0 (.int .i64 2)).put 1 (.int .i64 0)).put 2 (.slice (some ⟨g2, 0, none⟩) n e2)
      have R1 : Hid (Row W0 g1 33 n (mixF F FA 0)) := by
        unfold Hid; rw [eW]
        exact ((((((F1.out.other ⟨g3, 0, none⟩ d13 _).other ⟨g3, 1, none⟩ d13 _).other ⟨g3, 2, none⟩ d13 _).other ⟨g4, 0, none⟩ d14 _).other ⟨g4, 1, none⟩ d14 _).other ⟨g4, 2, none⟩ d14 _).congr fun i _ => by unfold mixF; rw [if_neg (by omega)]
      have R2 : Hid (Row W0 g2 33 n (mixF F FB 0)) := by
        unfold Hid; rw [eW]
        exact ((((((F2.out.other ⟨g3, 0, none⟩ d23 _).other ⟨g3, 1, none⟩ d23 _).other ⟨g3, 2, none⟩ d23 _).other ⟨g4, 0, none⟩ d24 _).other ⟨g4, 1, none⟩ d24 _).other ⟨g4, 2, none⟩ d24 _).congr fun i _ => by unfold mixF; rw [if_neg (by omega)]
      have MW : Hid (Made wS.heap.size wS W0) := by
        unfold Hid; rw [eW]
        exact (((((MU.out.put l3 _).put l3 _).put l3 _).put l4 _).put l4 _).put l4 _
      have s2 := MW.out.reads S2.out
      rw [← eW]
      clear eW z30 z31 z32 z40 z41 z42 zf3 zf4 F1 F2 F3 F4 MU
      go_wp2_with fail
      clear s2
      go_loopg [26] n (fun gg i wr => ∃ m : Nat, m + gg = n ∧ i = .int .i64 m ∧ Hid (Has wr g3 25 #[.int .i64 2, .int .i64 0, .slice (some ⟨g1, 0, none⟩) n e1]) ∧ Hid (Has wr g4 25 #[.int .i64 2, .int .i64 0, .slice (some ⟨g2, 0, none⟩) n e2]) ∧
        Hid (Row wr g1 33 n (mixF F FA m)) ∧ Hid (Row wr g2 33 n (mixF F FB m)) ∧ Hid (Made wS.heap.size wS wr))
      case atStart => exact ⟨0, by omega, rfl, H3, H4, R1, R2, MW⟩
      case round =>
        obtain ⟨m, hm, rfl, HA, HB, RA1, RB1, HM⟩ := hrel
        have s2 := HM.out.reads S2.out
        by_cases hlt : m < n
        · have hj : (m + t) % n < n := Nat.mod_lt _ (by omega)
          obtain ⟨j, ej⟩ : ∃ j, (m + t) % n = j := ⟨_, rfl⟩
          rw [ej] at hj
          have i1 : ((m : Int) + (t : Int)).tmod (n : Int) = (j : Int) := by
            rw [Int.tmod_eq_emod_of_nonneg (by omega), ← ej, Int.natCast_emod, Int.natCast_add]
          have i2 : ((m : Int) + (t : Int)) % (n : Int) = (j : Int) := by rw [← ej, Int.natCast_emod, Int.natCast_add]
          have i3 : (n : Int) - 1 - (m : Int) = ((n - 1 - m : Nat) : Int) := by omega
          obtain ⟨l, el⟩ : ∃ l, n - 1 - m = l := ⟨_, rfl⟩
          rw [el] at i3
          have hl : l < n := by omega
          obtain ⟨x, ex⟩ : ∃ x, (F j).1 = x := ⟨_, rfl⟩
          obtain ⟨y, ey⟩ : ∃ y, (F j).2 = y := ⟨_, rfl⟩
          obtain ⟨x', ex'⟩ : ∃ x, (F l).1 = x := ⟨_, rfl⟩
          obtain ⟨y', ey'⟩ : ∃ y, (F l).2 = y := ⟨_, rfl⟩
          have ax : Hid ((FA m).1 = x) := by unfold Hid; rw [← EA.out, ← ex, ← ej]
          have ay : Hid ((FA m).2 = y) := by unfold Hid; rw [← EA.out, ← ey, ← ej]
          have bx : Hid ((FB m).1 = x') := by unfold Hid; rw [← EB.out, ← ex', ← el]
          have b_y : Hid ((FB m).2 = y') := by unfold Hid; rw [← EB.out, ← ey', ← el]
          obtain ⟨c0, c1⟩ := PS.out.pts j hj
          obtain ⟨d0, d1⟩ := PS.out.pts l hl
          rw [ex, Nat.zero_add] at c0
          rw [ey, Nat.zero_add] at c1
          rw [ex', Nat.zero_add] at d0
          rw [ey', Nat.zero_add] at d1
          have c0 := HM.out.reads c0
          have c1 := HM.out.reads c1
          have D0 := hid d0; have D1 := hid d1
          have p2 := HA.out.at_ 2
          simp at p2
          clear ej el ex ey ex' ey' d0 d1
          go_wp2_with fail
          refine reg_made_tail 16 (by kernel_rfl) (by kernel_rfl) ?_
          intro T hT fw hf
          have s2' := Class.reads hf s2
          have p2' := Class.reads hf p2
          have c0' := Class.reads hf c0
          have c1' := Class.reads hf c1
          simp only [List.take_succ_cons, List.take_zero, List.drop_succ_cons, List.drop_zero]
          repeat (go_big_quiet_step (fail))
          refine wpQuiet_nil ?_
          intro w3 h3
          have k3 := hf.here h3
          have HA3 := HA.out.stays k3 HA.out.here
          have HB3 := HB.out.stays k3 HB.out.here
          have RA3 := RA1.out.kept k3
          have RB3 := RB1.out.kept k3
          have M3 := HM.out.then_ (k3.low HM.out.1.size)
          obtain ⟨r0, r1⟩ := RA3.pts m hlt
          rw [Nat.zero_add] at r0 r1
          have fz : ∀ i, w3.frozen? ⟨g1, i, none⟩ = false := RA3.free
          obtain ⟨W1, eW⟩ : ∃ W, W = (w3.setCell ⟨g1, m * 2, none⟩ (.int .i64 x)).setCell ⟨g1, m * 2 + 1, none⟩ (.int .i64 y) := ⟨_, rfl⟩
          have HA4 : Hid (Has W1 g3 25 #[.int .i64 2, .int .i64 0, .slice (some ⟨g1, 0, none⟩) n e1]) := by unfold Hid; rw [eW]; exact (HA3.other ⟨g1, m * 2, none⟩ (Ne.symm d13) _).other ⟨g1, m * 2 + 1, none⟩ (Ne.symm d13) _
          have HB4 : Hid (Has W1 g4 25 #[.int .i64 2, .int .i64 0, .slice (some ⟨g2, 0, none⟩) n e2]) := by unfold Hid; rw [eW]; exact (HB3.other ⟨g1, m * 2, none⟩ (Ne.symm d14) _).other ⟨g1, m * 2 + 1, none⟩ (Ne.symm d14) _
          have RA4 : Hid (Row W1 g1 33 n (mixF F FA (m + 1))) := by unfold Hid; rw [eW]; exact (RA3.put hlt x y).congr fun i _ => mix_next F FA m ax.out ay.out i
          have RB4 : Hid (Row W1 g2 33 n (mixF F FB m)) := by unfold Hid; rw [eW]; exact (RB3.other ⟨g1, m * 2, none⟩ (Ne.symm d12) _).other ⟨g1, m * 2 + 1, none⟩ (Ne.symm d12) _
          have M4 : Hid (Made wS.heap.size wS W1) := by unfold Hid; rw [eW]; exact (M3.put l1 _).put l1 _
          clear k3 h3 hf s2' p2' c0' c1' c0 c1 s2 p2 HA3 HB3 RA3 RB3 M3
          go_upto_region 11 with fail
          rw [← eW]
          clear eW r0 r1 fz
          have s2 := M4.out.reads S2.out
          have d0 := M4.out.reads D0.out
          have d1 := M4.out.reads D1.out
          have p2 := HB4.out.at_ 2
          simp at p2
          refine reg_made_tail 14 (by kernel_rfl) (by kernel_rfl) ?_
          intro T hT fw hf
          have s2' := Class.reads hf s2
          have p2' := Class.reads hf p2
          have d0' := Class.reads hf d0
          have d1' := Class.reads hf d1
          simp only [List.take_succ_cons, List.take_zero, List.drop_succ_cons, List.drop_zero]
          repeat (go_big_quiet_step (fail))
          refine wpQuiet_nil ?_
          intro w5 h5
          have k5 := hf.here h5
          have HA5 : Hid (Has w5 g3 25 #[.int .i64 2, .int .i64 0, .slice (some ⟨g1, 0, none⟩) n e1]) := HA4.out.stays k5 HA4.out.here
          have HB5 : Hid (Has w5 g4 25 #[.int .i64 2, .int .i64 0, .slice (some ⟨g2, 0, none⟩) n e2]) := HB4.out.stays k5 HB4.out.here
          have RA5 : Hid (Row w5 g1 33 n (mixF F FA (m + 1))) := RA4.out.kept k5
          have RB5 : Hid (Row w5 g2 33 n (mixF F FB m)) := RB4.out.kept k5
          have M5 : Hid (Made wS.heap.size wS w5) := M4.out.then_ (k5.low M4.out.1.size)
          obtain ⟨r0, r1⟩ := RB5.out.pts m hlt
          rw [Nat.zero_add] at r0 r1
          have fz : ∀ i, w5.frozen? ⟨g2, i, none⟩ = false := RB5.out.free
          clear k5 h5 hf s2' p2' d0' d1' d0 d1 s2 p2
          go_wp2_with fail
          go_roundg (n - m - 1)
          case rel =>
            exact ⟨m + 1, by omega, by go_num, (HA5.out.other ⟨g2, m * 2, none⟩ (Ne.symm d23) _).other ⟨g2, m * 2 + 1, none⟩ (Ne.symm d23) _, (HB5.out.other ⟨g2, m * 2, none⟩ (Ne.symm d24) _).other ⟨g2, m * 2 + 1, none⟩ (Ne.symm d24) _,
              (RA5.out.other ⟨g2, m * 2, none⟩ d12 _).other ⟨g2, m * 2 + 1, none⟩ d12 _, (RB5.out.put hlt x' y').congr fun i _ => mix_next F FB m bx.out b_y.out i, (M5.out.put l2 _).put l2 _⟩
          case measure => omega
        · have e : m = n := by omega
          subst e
          have RA2 : Hid (Row wr g1 33 m FA) := RA1.out.congr fun i hi => mix_all F FA m i hi
          have RB2 : Hid (Row wr g2 33 m FB) := RB1.out.congr fun i hi => mix_all F FB m i hi
          have p0 := HA.out.at_ 0
          have p1 := HA.out.at_ 1
          have p2 := HA.out.at_ 2
          have q0 := HB.out.at_ 0
          have q1 := HB.out.at_ 1
          have q2 := HB.out.at_ 2
          simp at p0 p1 p2 q0 q1 q2
          have s0 := HM.out.reads S0.out
          have s1 := HM.out.reads S1.out
          have PR : Hid (Row wr g 33 m F) := PS.out.kept HM.out
          go_wp2_with fail
          refine reg_made_tail 21 (by kernel_rfl) (by kernel_rfl) ?_
          intro T hT fw hf
          have KA : Hid (∀ x, Pts (fw x) g1 0 m FA) := fun x => (RA2.out.kept (hf.1 x)).pts
          have KB : Hid (∀ x, Pts (fw x) g2 0 m FB) := fun x => (RB2.out.kept (hf.1 x)).pts
          have IG : Hid (Cin F m) := GI.out
          have KS : Hid (∀ x, Pts (fw x) g 0 m F) := fun x => (PR.out.kept (hf.1 x)).pts
          have p0' := Class.reads hf p0
          have p1' := Class.reads hf p1
          have p2' := Class.reads hf p2
          have q0' := Class.reads hf q0
          have q1' := Class.reads hf q1
          have q2' := Class.reads hf q2
          have s0' := Class.reads hf s0
          have s1' := Class.reads hf s1
          have s2' := Class.reads hf s2
          simp only [List.take_succ_cons, List.take_zero, List.drop_succ_cons, List.drop_zero]
          repeat (go_big_quiet_step ((first
            | (go_at_call 9; with_reducible exact hf.made (right_poly g1 0 m e1 FA _ n0 n1 (KA.out _) IA.out true (yes_iff RA.out)))
            | (go_at_call 9; with_reducible exact hf.made (right_poly g2 0 m e2 FB _ n0 n1 (KB.out _) IB.out false (no_iff RB.out)))
            | (go_at_call 17; with_reducible exact hf.made (reach_is 2 0 g1 0 m e1 FA _ two_ne n1 (KA.out _) IA.out r TA.out))
            | (go_at_call 17; with_reducible exact hf.made (reach_is 2 0 g2 0 m e2 FB _ two_ne n1 (KB.out _) IB.out r TB.out))
            | (go_at_call 17; with_reducible exact hf.made (reach_is 2 0 g 0 m cap F _ two_ne n1 (KS.out _) IG.out r TF.out)))))
          refine wpQuiet_nil ?_
          intro w6 h6
          have M6 : Hid (Made w.heap.size w w6) := MS.out.then_ ((HM.out.then_ ((hf.here h6).low HM.out.1.size)).low MS.out.1.size)
          clear h6 hf
          go_wp2_with fail
          go_ret
          exact ⟨rfl, M6.out⟩
end Go.Proofs.Ytekcehhoimhjeaa.Fx
