/- Contracts of package shape: Box, Copy, Reach. -/
import Derived.Test.YtekcehhoimhjeaaShapeD
import Derived.Lib.SliceRun
import Derived.OwnWalk
namespace Go.Proofs.Ytekcehhoimhjeaa.Fx
open Go.ChangeShapes Go.WideShapes Go.ChangeAt Go.RowKit
set_option linter.unusedVariables false

theorem has_next (w : World) (o : Obj) (t : TypeId) (A : Array Value) : Has ((w.alloc o).alloc (.cells A t)) (w.heap.size + 1) t A := by simpa using has_new (w.alloc o) t A
/-- the corners of Box -/
def boxF (a b : Int) : Cs := fun i => (if i = 0 ∨ i = 3 then negF a else a, if i = 0 ∨ i = 1 then negF b else b)
set_option maxRecDepth 100000 in
set_option maxHeartbeats 2000000 in
theorem box_is (a b : Int) (w : World) (f : Cs) (ha : I64 a) (hb : I64 b) (hf : ∀ i, i < 4 → boxF a b i = f i) :
    Calls Try.prog 24 #[.int .i64 a, .int .i64 b] w fun e w' => ∃ g, e = .returned (shapeV 2 0 (.slice (some ⟨g, 0, none⟩) 4 4)) ∧ w.heap.size ≤ g ∧ Row w' g 33 4 f ∧ Made w.heap.size w w' := by
  have HF := hid hf
  clear hf
  go_enter Try.func24, Try.ntmps24
  go_wp2_with fail
  refine (neg_c a _ ha).mono ?_
  rintro e w' ⟨rfl, rfl⟩
  go_wp2_with fail
  refine (neg_c b _ hb).mono ?_
  rintro e w' ⟨rfl, rfl⟩
  go_wp2_with fail
  refine bodyPost_ret (v := shapeV 2 0 (.slice (some ⟨w.heap.size + 1, 0, none⟩) 4 4)) (by simp [results, Try.results24, go_sem]) rfl ⟨_, rfl, by omega, ?_, ((Made.rfl_ _ _).cells (Nat.le_refl _) _ _).cells (by simp) _ _⟩
  refine Row.congr (f := boxF a b) ?_ HF.out
  refine ⟨_, has_next _ _ _ _, by simp, fun j hj => ?_⟩
  rcases (show j = 0 ∨ j = 1 ∨ j = 2 ∨ j = 3 ∨ j = 4 ∨ j = 5 ∨ j = 6 ∨ j = 7 by omega) with rfl | rfl | rfl | rfl | rfl | rfl | rfl | rfl <;> rfl

set_option maxRecDepth 100000 in
set_option maxHeartbeats 2000000 in
theorem clone_is (b off n cap : Nat) (f : Cs) (w : World) (hn : 0 < n) (h8 : n ≤ 8) (hp : Pts w b off n f) :
    Calls Try.prog 37 #[.slice (some ⟨b, off, none⟩) n cap] w fun e w' => ∃ g c, e = .returned (.slice (some ⟨g, 0, none⟩) n c) ∧ w.heap.size ≤ g ∧ Row w' g 33 n f ∧ Made w.heap.size w w' := by
  have HP := hid hp
  clear hp
  have q := fun W : World => Lib.run_eql_slice_nil (P := Try.prog) W 23 33 (some ⟨b, off, none⟩) n cap 0 0 Try.underlying23
  have hb : b < w.heap.size := HP.out.here hn
  have HA : Hid (Made w.heap.size w (w.alloc (.cells #[] 33))) := (Made.rfl_ _ _).cells (Nat.le_refl _) _ _
  have HO : Hid ((w.alloc (.cells #[] 33)).ownsRow w.heap.size 33 2 (.slice (some ⟨w.heap.size, 0, none⟩) 0 0) 0 []) := World.ownsRow_lit w #[] 0 (Nat.le_refl _) (by unfold maxLen; omega) rfl
  obtain ⟨i0, hi, hz0, hz1, hz2⟩ := info_parts info_V
  go_enter Try.func37, Try.ntmps37
  go_wp2_with (at_builtin; refine wpList_append_made _ rfl (.tmp 5) (.tmp 6) 23 rfl w.heap.size 33 i0 (.agg #[.int .i64 0, .int .i64 0]) 2 16 Try.underlying23 hi hz0 hz1 hz2 rfl (by decide) (.slice (some ⟨w.heap.size, 0, none⟩) 0 0) 0 [] rfl HO.out ⟨b, off, none⟩ n cap (flat f n) rfl (flat_len f n) (HP.out.kept HA.out).flat_at (flat_one f n) (by unfold maxLen; omega) (by omega) (by simp) hn ?_)
  intro v' w1 hown hg hf
  obtain ⟨g, c, rfl, hbg, hc, hm, hrow⟩ := Row.of_own hown hn
  have M1 : Hid (Made w.heap.size w w1) := HA.out.app hg hf (by simp) (fun k hk => by simp [Value.ownBlock] at hk; omega)
  have HR := hid hrow
  clear hown hg hf hrow
  go_wp2_with fail
  go_ret
  exact ⟨g, c, rfl, hbg, HR.out, M1.out⟩

set_option maxRecDepth 100000 in
set_option maxHeartbeats 2000000 in
theorem copy_is (K R : Int) (b off n cap : Nat) (f : Cs) (w : World) (hn : 0 < n) (h8 : n ≤ 8) (hp : Pts w b off n f) :
    Calls Try.prog 22 #[shapeV K R (.slice (some ⟨b, off, none⟩) n cap)] w fun e w' => ∃ g c, e = .returned (shapeV K R (.slice (some ⟨g, 0, none⟩) n c)) ∧ w.heap.size ≤ g ∧ Row w' g 33 n f ∧ Made w.heap.size w w' := by
  have HP : Hid (∀ v, Made w.heap.size w v → Pts v b off n f) := fun v k => hp.kept k
  clear hp
  go_enter Try.func22, Try.ntmps22
  go_wp2_with fail
  refine (clone_is b off n cap f _ hn h8 (HP.out _ (((Made.rfl_ _ _).cells (Nat.le_refl _) _ _).cells (by simp) _ _))).mono ?_
  rintro e w1 ⟨g, c, rfl, hg, hrow, k1⟩
  have x0 := k1.reads (p := ⟨w.heap.size, 0, none⟩) (x := .int .i64 K) (by go_simp)
  have x1 := k1.reads (p := ⟨w.heap.size, 1, none⟩) (x := .int .i64 R) (by go_simp)
  have x2 := k1.reads (p := ⟨w.heap.size, 2, none⟩) (x := .slice (some ⟨b, off, none⟩) n cap) (by go_simp)
  have m2 : w1.frozen? ⟨w.heap.size, 2, none⟩ = false := (k1.2 _).trans (by go_simp)
  have r0 := k1.reads (p := ⟨w.heap.size + 1, 0, none⟩) (x := .int .i64 0) (by go_simp)
  have r1 := k1.reads (p := ⟨w.heap.size + 1, 1, none⟩) (x := .int .i64 0) (by go_simp)
  have r2 := k1.reads (p := ⟨w.heap.size + 1, 2, none⟩) (x := .slice none 0 0) (by go_simp)
  have n0 : w1.frozen? ⟨w.heap.size + 1, 0, none⟩ = false := (k1.2 _).trans (by go_simp)
  have n1 : w1.frozen? ⟨w.heap.size + 1, 1, none⟩ = false := (k1.2 _).trans (by go_simp)
  have n2 : w1.frozen? ⟨w.heap.size + 1, 2, none⟩ = false := (k1.2 _).trans (by go_simp)
  have hg2 : w.heap.size + 1 < g := by simp at hg; omega
  have M1 := hid (made_box (made_box k1))
  have HR := hid hrow
  have HG := hid hg2
  clear k1 hrow hg hg2
  go_wp2_with fail
  refine bodyPost_ret (v := shapeV K R (.slice (some ⟨g, 0, none⟩) n c)) (by simp [results, Try.results22, go_sem, r0, r1, r2]) rfl ⟨g, c, rfl, by have := HG.out; omega, ?_, ?_⟩
  · have := HG.out
    exact (((HR.out.other _ (by simp; omega) _).other _ (by simp; omega) _).other _ (by simp; omega) _).other _ (by simp; omega) _
  · exact (((M1.out.put (by simp) _).put (by simp) _).put (by simp) _).put (by simp) _

set_option maxRecDepth 100000 in
set_option maxHeartbeats 2000000 in
theorem reach_circle (R : Int) (s : Value) (w : World) :
    Calls Try.prog 17 #[shapeV 1 R s] w fun e w' => e = .returned (.int .i64 R) ∧ Made w.heap.size w w' := by
  go_enter Try.func17, Try.ntmps17
  go_wp2_with fail
  go_ret
  exact ⟨rfl, (Made.rfl_ _ _).cells (Nat.le_refl _) _ _⟩
set_option maxRecDepth 100000 in
set_option maxHeartbeats 2000000 in
theorem reach_is (K R : Int) (b off n cap : Nat) (f : Cs) (w : World) (hK : K ≠ 1) (h8 : n ≤ 8) (hp : Pts w b off n f) (hi : Cin f n) (r : Int) (hr : Top f n r) :
    Calls Try.prog 17 #[shapeV K R (.slice (some ⟨b, off, none⟩) n cap)] w fun e w' => e = .returned (.int .i64 r) ∧ Made w.heap.size w w' := by
  have HP := hid hp
  have HI := hid hi
  have HR := hid hr
  have k1 : (K == 1) = false := by simpa using hK
  clear hp hi hr hK
  go_enter Try.func17, Try.ntmps17
  go_wp2_with fail
  go_loopg [3, 14] n (fun g m t wr => ∃ (k : Nat) (q : Int), k + g = n ∧ t = .int .i64 k ∧ m = .int .i64 q ∧ Hid (Top f k q) ∧ Hid (Made w.heap.size w wr))
  case atStart => exact ⟨0, 0, by omega, rfl, rfl, top_nil f, (Made.rfl_ _ _).cells (Nat.le_refl _) _ _⟩
  case round =>
    obtain ⟨k, q, hk, rfl, rfl, HT, HM⟩ := hrel
    by_cases hlt : k < n
    · obtain ⟨x, ex⟩ : ∃ x, (f k).1 = x := ⟨_, rfl⟩
      obtain ⟨y, ey⟩ : ∃ y, (f k).2 = y := ⟨_, rfl⟩
      obtain ⟨ix, iy⟩ := HI.out k hlt
      obtain ⟨c0, c1⟩ := HP.out k hlt
      rw [ex] at ix c0
      rw [ey] at iy c1
      have c0 := HM.out.reads c0
      have c1 := HM.out.reads c1
      have hb : b < wr.heap.size := World.block_lt_of_cell? _ _ c0
      have EX := hid ex
      have EY := hid ey
      clear ex ey
      obtain ⟨l, el⟩ : ∃ l, lenF x y = l := ⟨_, rfl⟩
      have EL := hid el
      clear el
      obtain ⟨q', eq'⟩ : ∃ q', max q l = q' := ⟨_, rfl⟩
      go_wp2_with fail
      refine (vlen_is x y l _ ix iy EL.out).mono ?_
      rintro e w1 ⟨rfl, k1'⟩
      have M1 : Hid (Made w.heap.size w w1) := HM.out.then_ (made_box k1' |>.low HM.out.1.size)
      clear k1'
      go_wp2_with fail
      go_roundg (n - k - 1)
      case rel =>
        refine ⟨k + 1, q', by omega, by go_num, rfl, ?_, M1⟩
        have h := top_next HT.out
        rw [EX.out, EY.out, EL.out, eq'] at h
        exact h
      case measure => omega
    · go_wp2_with fail
      go_ret
      have e : k = n := by omega
      subst e
      exact ⟨by rw [top_one HT.out HR.out]; rfl, HM.out⟩
end Go.Proofs.Ytekcehhoimhjeaa.Fx
