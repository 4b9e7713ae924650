/- What package box answers: Of of a polygon; all of it. -/
import Derived.Test.YtmfkcdinfahjlaaBoxJ
namespace Go.Proofs.Ytmfkcdinfahjlaa.Fx
open Go.ChangeShapes Go.WideShapes Go.ChangeAt Go.RowKit
set_option linter.unusedVariables false

set_option maxRecDepth 100000 in
set_option maxHeartbeats 4000000 in
theorem poly_is (X Y A : Int) (b off n cap : Nat) (f : Cs) (lx hx ly hy : Int) (w : World) (iX : I64 X) (iY : I64 Y) (iA : I64 A) (hn : 2 ≤ n) (h8 : n ≤ 8) (hp : Pts w b off n f) (hi : Cin f n)
    (ex : Ext (fun i => (placeF f (cs (stepF A)) (sn (stepF A)) X Y i).1) n lx hx) (ey : Ext (fun i => (placeF f (cs (stepF A)) (sn (stepF A)) X Y i).2) n ly hy) :
    Calls Try.prog 14 #[bodyV 0 X Y 0 0 A 0 0 2 0 (.slice (some ⟨b, off, none⟩) n cap)] w fun e w' => e = .returned (rectV lx ly hx hy) ∧ Made w.heap.size w w' := by
  have HP : Hid (∀ v, Made w.heap.size w v → Pts v b off n f) := fun v k => hp.kept k
  have HI := hid hi
  obtain ⟨F, eF⟩ : ∃ F, placeF f (cs (stepF A)) (sn (stepF A)) X Y = F := ⟨_, rfl⟩
  rw [eF] at ex ey
  have EX := hid ex
  have EY := hid ey
  have HC := hid (fun w hp => corners_is 0 b off n cap f X Y A w (by omega) h8 hp hi iX iY iA)
  have EF := hid eF
  have n0 : ((n : Int) == 0) = false := by simp; omega
  have n1 : n ≠ 1 := by omega
  have n2 : 1 ≤ (n : Int) := by omega
  have n3 : 0 < n := by omega
  clear hp hi ex ey eF
  go_enter Try.func14, Try.ntmps14
  go_wp2_with fail
  refine (HC.out _ (HP.out _ (((Made.rfl_ _ _).cells (Nat.le_refl _) _ _).cells (by simp) _ _))).mono ?_
  rintro e w1 ⟨G, rfl, hG, hR, k1⟩
  rw [EF.out] at hR
  have M1 := hid (made_box (made_box k1))
  have f0 : ∀ i, w1.frozen? ⟨w.heap.size + 1, i, none⟩ = false := fun i => (k1.2 _).trans (by go_simp)
  have x0 := k1.reads (p := ⟨w.heap.size + 1, 0, none⟩) (x := .int .i64 0) (by go_simp)
  have x1 := k1.reads (p := ⟨w.heap.size + 1, 1, none⟩) (x := .int .i64 0) (by go_simp)
  have x2 := k1.reads (p := ⟨w.heap.size + 1, 2, none⟩) (x := .int .i64 0) (by go_simp)
  have x3 := k1.reads (p := ⟨w.heap.size + 1, 3, none⟩) (x := .int .i64 0) (by go_simp)
  have HR := hid hR
  have sG : Hid (w.heap.size + 1 < G) := by simp at hG; unfold Hid; omega
  clear k1 hR hG
  obtain ⟨u0, eu0⟩ : ∃ x, (F 0).1 = x := ⟨_, rfl⟩
  obtain ⟨v0, ev0⟩ : ∃ x, (F 0).2 = x := ⟨_, rfl⟩
  have q0 := (HR.out.pts 0 (by omega)).1
  have q1 := (HR.out.pts 0 (by omega)).2
  simp only [Nat.zero_mul, Nat.zero_add, Nat.add_zero] at q0 q1
  rw [eu0] at q0
  rw [ev0] at q1
  have E0 : Hid (Ext (fun i => (F i).1) 1 u0 u0) := by unfold Hid; rw [← eu0]; exact Ext.first _
  have E1 : Hid (Ext (fun i => (F i).2) 1 v0 v0) := by unfold Hid; rw [← ev0]; exact Ext.first _
  clear eu0 ev0
  go_wp2_with fail
  refine (at_c u0 v0 _).mono ?_
  rintro e w2 ⟨rfl, k2⟩
  have M2 := hid (M1.out.then_ (k2.low M1.out.1.size))
  have HR : Hid (Row w2 G 26 n F) := HR.out.kept k2
  have x0 := k2.reads x0
  have x1 := k2.reads x1
  have x2 := k2.reads x2
  have x3 := k2.reads x3
  have f0 : ∀ i, w2.frozen? ⟨w.heap.size + 1, i, none⟩ = false := fun i => (k2.2 _).trans (f0 i)
  have sz : Hid (w1.heap.size ≤ w2.heap.size) := k2.1.size
  clear k2 q0 q1
  have HX := hid x0
  have sx0 : Hid (∀ v, Made w2.heap.size w2 v → v.cell? ⟨w.heap.size + 1, 0, none⟩ = some (.int .i64 0) ∧ v.cell? ⟨w.heap.size + 1, 1, none⟩ = some (.int .i64 0) ∧ v.cell? ⟨w.heap.size + 1, 2, none⟩ = some (.int .i64 0) ∧ v.cell? ⟨w.heap.size + 1, 3, none⟩ = some (.int .i64 0) ∧ ∀ i, v.frozen? ⟨w.heap.size + 1, i, none⟩ = false) :=
    fun v k => ⟨k.reads x0, k.reads x1, k.reads x2, k.reads x3, fun i => (k.2 _).trans (f0 i)⟩
  clear HX x0 x1 x2 x3 f0
  go_wp2_with fail
  obtain ⟨W0, eW⟩ : ∃ W, W = w2.alloc (.cells #[.int .i64 u0, .int .i64 v0, .int .i64 u0, .int .i64 v0] 43) := ⟨_, rfl⟩
  obtain ⟨B, eB⟩ : ∃ B, w2.heap.size = B := ⟨_, rfl⟩
  have T0 : Hid (Has W0 B 43 #[.int .i64 u0, .int .i64 v0, .int .i64 u0, .int .i64 v0]) := by unfold Hid; rw [eW, ← eB]; exact has_new _ _ _
  have MW : Hid (Made B w2 W0) := by unfold Hid; rw [eW, ← eB]; exact (Made.rfl_ _ _).cells (Nat.le_refl _) _ _
  have gB : G < B := by rw [← eB]; exact HR.out.here
  have wB : w.heap.size + 1 < B := by have := sz.out; have := M1.out.1.size; have := sG.out; omega
  have RW : Hid (Row W0 G 26 n F) := HR.out.stays MW.out gB
  have sB : Hid (∀ v, Made B W0 v → v.cell? ⟨w.heap.size + 1, 0, none⟩ = some (.int .i64 0) ∧ v.cell? ⟨w.heap.size + 1, 1, none⟩ = some (.int .i64 0) ∧ v.cell? ⟨w.heap.size + 1, 2, none⟩ = some (.int .i64 0) ∧ v.cell? ⟨w.heap.size + 1, 3, none⟩ = some (.int .i64 0) ∧ ∀ i, v.frozen? ⟨w.heap.size + 1, i, none⟩ = false) := by
    intro v k
    have := eB
    subst this
    exact sx0.out v (MW.out.then_ k)
  have MB : Hid (∀ v, Made B W0 v → Made w.heap.size w v) := fun v k => M2.out.then_ ((MW.out.then_ k).low (by have := M2.out.1.size; omega))
  have n4 : ((n - 1 : Nat) : Int) = n - 1 := by omega
  rw [← eW, eB]
  clear eW eB sx0 sz sG
  go_loopg [36] (n - 1) (fun g t wr => ∃ (m : Nat) (l1 h1 l2 h2 : Int), m + g = n - 1 ∧ t = .int .i64 m ∧ Hid (Has wr B 43 #[.int .i64 l1, .int .i64 l2, .int .i64 h1, .int .i64 h2]) ∧ Hid (Ext (fun i => (F i).1) (m + 1) l1 h1) ∧ Hid (Ext (fun i => (F i).2) (m + 1) l2 h2) ∧ Hid (Made B W0 wr))
  case atStart => exact ⟨0, u0, u0, v0, v0, by omega, rfl, T0, E0, E1, Made.rfl_ _ _⟩
  case round =>
    obtain ⟨m, l1, h1, l2, h2, hm, rfl, HH, X1, X2, HM⟩ := hrel
    by_cases hlt : m < n - 1
    · obtain ⟨u, eu⟩ : ∃ x, (F (m + 1)).1 = x := ⟨_, rfl⟩
      obtain ⟨v, ev⟩ : ∃ y, (F (m + 1)).2 = y := ⟨_, rfl⟩
      obtain ⟨c0, c1⟩ := (RW.out.stays HM.out gB).pts (m + 1) (by omega)
      rw [eu, show 0 + (m + 1) * 2 = 2 + m * 2 by omega] at c0
      rw [ev, show 0 + (m + 1) * 2 = 2 + m * 2 by omega] at c1
      have Y1 : Hid (Ext (fun i => (F i).1) (m + 1 + 1) (min l1 u) (max h1 u)) := by have := X1.out.next; simp only [eu] at this; exact this
      have Y2 : Hid (Ext (fun i => (F i).2) (m + 1 + 1) (min l2 v) (max h2 v)) := by have := X2.out.next; simp only [ev] at this; exact this
      obtain ⟨a1, ea1⟩ : ∃ x, min l1 u = x := ⟨_, rfl⟩
      obtain ⟨a2, ea2⟩ : ∃ x, min l2 v = x := ⟨_, rfl⟩
      obtain ⟨b1, eb1⟩ : ∃ x, max h1 u = x := ⟨_, rfl⟩
      obtain ⟨b2, eb2⟩ : ∃ x, max h2 v = x := ⟨_, rfl⟩
      rw [ea1, eb1] at Y1
      rw [ea2, eb2] at Y2
      have A1 := hid ea1
      have A2 := hid ea2
      have B1 := hid eb1
      have B2 := hid eb2
      clear eu ev ea1 ea2 eb1 eb2 X1 X2
      have t0 := HH.out.at_ 0
      have t1 := HH.out.at_ 1
      have t2 := HH.out.at_ 2
      have t3 := HH.out.at_ 3
      simp at t0 t1 t2 t3
      have hBr : B < wr.heap.size := HH.out.here
      go_wp2_with fail
      refine reg_made_tail 4 (by kernel_rfl) (by kernel_rfl) ?_
      intro T hT fw hf
      have a0 := Class.reads hf (p := ⟨wr.heap.size, 0, none⟩) (u := .int .i64 u) (by go_simp)
      have a1_ := Class.reads hf (p := ⟨wr.heap.size, 1, none⟩) (u := .int .i64 v) (by go_simp)
      have s0 := Class.reads hf (cell_more t0)
      have s1 := Class.reads hf (cell_more t1)
      have s2 := Class.reads hf (cell_more t2)
      have s3 := Class.reads hf (cell_more t3)
      simp only [List.take_succ_cons, List.take_zero, List.drop_succ_cons, List.drop_zero]
      repeat (go_big_quiet_step ((first
        | (go_at_call 30; with_reducible exact hf.made (at_c _ _ _))
        | (go_at_call 32; with_reducible exact hf.made (join_is _ _ _ _ _ _ _ _ _ _ _ _ _ A1.out A2.out B1.out B2.out)))))
      refine wpQuiet_nil ?_
      intro w3 h3
      have k3 := made_box (hf.here h3)
      have H3 : Hid (Has w3 B 43 #[.int .i64 l1, .int .i64 l2, .int .i64 h1, .int .i64 h2]) := HH.out.stays k3 hBr
      have M3 : Hid (Made B W0 w3) := HM.out.then_ (k3.low (Nat.le_of_lt hBr))
      have r0 := H3.out.at_ 0
      have r1 := H3.out.at_ 1
      have r2 := H3.out.at_ 2
      have r3 := H3.out.at_ 3
      simp at r0 r1 r2 r3
      have fz : ∀ i, w3.frozen? ⟨B, i, none⟩ = false := H3.out.free
      clear k3 h3 hf a0 a1_ s0 s1 s2 s3 t0 t1 t2 t3 c0 c1
      go_wp2_with fail
      go_roundg (n - 1 - m - 1)
      case rel =>
        refine ⟨m + 1, a1, b1, a2, b2, by omega, by go_num, ?_, Y1, Y2, ?_⟩
        · have := (((H3.out.put 0 (.int .i64 a1)).put 1 (.int .i64 a2)).put 2 (.int .i64 b1)).put 3 (.int .i64 b2)
          simp at this
          exact this
        · exact (((M3.out.put (by simp) _).put (by simp) _).put (by simp) _).put (by simp) _
      case measure => omega
    · have e : m + 1 = n := by omega
      obtain ⟨rfl, rfl⟩ := EX.out.one (by rw [← e]; exact X1.out)
      obtain ⟨rfl, rfl⟩ := EY.out.one (by rw [← e]; exact X2.out)
      have t0 := HH.out.at_ 0
      have t1 := HH.out.at_ 1
      have t2 := HH.out.at_ 2
      have t3 := HH.out.at_ 3
      simp at t0 t1 t2 t3
      obtain ⟨x0, x1, x2, x3, fz⟩ := sB.out wr HM.out
      have MR : Hid (Made w.heap.size w wr) := MB.out wr HM.out
      clear X1 X2 e HH
      go_wp2_with fail
      refine bodyPost_ret (v := rectV lx ly hx hy) (by simp [results, Try.results14, go_sem, x0, x1, x2, x3]) rfl ⟨rfl, ?_⟩
      exact (((MR.out.put (by simp; try omega) _).put (by simp; try omega) _).put (by simp; try omega) _).put (by simp; try omega) _

end Go.Proofs.Ytmfkcdinfahjlaa.Fx
