/- The statements' own area, of a polygon and of a circle. -/
import Derived.Test.YtahbnbaldoblaaaVecs
import Derived.Test.YtahbnbaldoblaaaMem
import Derived.Test.YtahbnbaldoblaaaShapes
import Derived.Test.YtahbnbaldoblaaaPlain
import Derived.Deep.LoopGhost
import Derived.LoopN
import Derived.WalkMore
namespace Go.Proofs.Ytahbnbaldoblaaa.Fx
open Go.ChangeShapes Go.WideShapes Go.ChangeAt Go.RowKit
set_option linter.unusedVariables false

theorem mul_is (a b r : Int) (w : World) (ha : I64 a) (hb : I64 b) (e : mulF a b = r) : Calls Try.prog 10 #[.int .i64 a, .int .i64 b] w fun e w' => e = .returned (.int .i64 r) ∧ w = w' := by subst e; exact mul_c a b w ha hb
theorem sumT_i64 (T : Int × Int → Int × Int → Int) (f : Cs) (n m : Nat) : I64 (sumT T f n m) := i64_rg (sum_rg T f n m)

set_option maxRecDepth 100000 in
set_option maxHeartbeats 2000000 in
theorem larea_is (K R : Int) (b off n cap : Nat) (f : Cs) (w : World) (hK : K ≠ 1) (h0 : 0 < n) (h8 : n ≤ 8) (hP : Pts w b off n f) (hi : Cin f n) :
    Calls Try.prog 11 #[shapeV K R (.slice (some ⟨b, off, none⟩) n cap)] w fun e w' => e = .returned (.int .i64 (sumT areaT f n n)) ∧ Made w.heap.size w w' := by
  have HP := hid hP
  have HI := hid hi
  have hk1 : (K == 1) = false := by simpa using hK
  clear hP hi hK
  go_enter Try.func11, Try.ntmps11
  go_wp2_with fail
  go_loopg [3, 18] n (fun g s t wr => ∃ k : Nat, k + g = n ∧ t = .int .i64 k ∧ s = .int .i64 (sumT areaT f n k) ∧ Hid (Has wr w.heap.size 28 #[.int .i64 K, .int .i64 R, .slice (some ⟨b, off, none⟩) n cap]) ∧ Hid (Made w.heap.size w wr))
  case atStart => exact ⟨0, by omega, rfl, rfl, has_new _ _ _, (Made.rfl_ _ _).cells (Nat.le_refl _) _ _⟩
  case round =>
    obtain ⟨k, hk, rfl, rfl, HT, HM⟩ := hrel
    by_cases hlt : k < n
    · obtain ⟨j, ej⟩ : ∃ j, (k + 1) % n = j := ⟨_, rfl⟩
      have hj : j < n := by rw [← ej]; exact Nat.mod_lt _ h0
      have hm : ((k : Int) + 1).tmod (n : Int) = (j : Int) := by
        rw [Int.tmod_eq_emod_of_nonneg (by omega), ← ej, Int.natCast_emod, Int.natCast_add]
        rfl
      have HS : Hid (sumT areaT f n (k + 1) = addF (sumT areaT f n k) (areaT (f k) (f j))) := by rw [← ej]; rfl
      obtain ⟨i0, i1⟩ := HI.out k hlt
      obtain ⟨i2, i3⟩ := HI.out j hj
      have c0 := HM.out.reads (HP.out k hlt).1
      have c1 := HM.out.reads (HP.out k hlt).2
      have d0 := HM.out.reads (HP.out j hj).1
      have d1 := HM.out.reads (HP.out j hj).2
      have iS := sumT_i64 areaT f n k
      obtain ⟨S1, eS1⟩ : ∃ s, sumT areaT f n (k + 1) = s := ⟨_, rfl⟩
      rw [eS1] at HS
      have ES1 := hid eS1
      clear eS1
      generalize sumT areaT f n k = S at *
      generalize f k = p at *
      generalize f j = q at *
      obtain ⟨p0, p1⟩ := p
      obtain ⟨q0, q1⟩ := q
      simp only [] at i0 i1 i2 i3 c0 c1 d0 d1
      obtain ⟨c, ec⟩ : ∃ c, subF (mulF p0 q1) (mulF p1 q0) = c := ⟨_, rfl⟩
      obtain ⟨d, ed⟩ : ∃ d, divF c 8589934592 = d := ⟨_, rfl⟩
      have ic : I64 c := by rw [← ec]; exact i64_sub _ _
      have id_ : I64 d := by rw [← ed]; exact i64_div _ _
      have iG : I64 8589934592 := by unfold I64; omega
      have hS1 : addF S d = S1 := by rw [HS.out, ← ed, ← ec]; rfl
      have EC := hid ec
      have ED := hid ed
      have ES := hid hS1
      have EJ := hid ej
      clear ec ed hS1 ej HS
      have b2 := HT.out.at_ 2
      have hb : b < wr.heap.size := World.block_lt_of_cell? _ _ c0
      have hg := HT.out.here
      go_wp2_with fail
      refine reg_made (by kernel_rfl) (by kernel_rfl) ?_
      intro T hT fw hf
      have x0 := Class.reads hf (p := ⟨wr.heap.size, 0, none⟩) (u := .int .i64 p0) (by go_simp)
      have x1 := Class.reads hf (p := ⟨wr.heap.size, 1, none⟩) (u := .int .i64 p1) (by go_simp)
      have y0 := Class.reads hf (p := ⟨b, off + j * 2, none⟩) (u := .int .i64 q0) (cell_more d0)
      have y1 := Class.reads hf (p := ⟨b, off + j * 2 + 1, none⟩) (u := .int .i64 q1) (cell_more d1)
      have y2 := Class.reads hf (p := ⟨w.heap.size, 2, none⟩) (u := .slice (some ⟨b, off, none⟩) n cap) (cell_more b2)
      repeat (go_big_quiet_step ((first | (go_at_call 27; with_reducible exact hf.made (vcross_is _ _ _ _ _ _ (by assumption) (by assumption) (by assumption) (by assumption) EC.out)) | (go_at_call 13; with_reducible exact hf.drawn (div_is _ _ _ _ (by assumption) (by assumption) ED.out)) | (go_at_call 26; with_reducible exact hf.same (add_is _ _ _ _ (by assumption) (by assumption) ES.out)))))
      refine wpQuiet_nil ?_
      intro w3 h3
      have k3 := hf.here h3
      go_wp2_with fail
      go_roundg (n - k - 1)
      case rel =>
        refine ⟨k + 1, by omega, by go_num, by rw [ES1.out], (HT.out.more _).stays k3 (by simp; omega), HM.out.then_ (made_box k3 |>.low HM.out.1.size)⟩
      case measure => omega
    · obtain rfl : k = n := by omega
      go_wp2_with fail
      go_ret
      exact ⟨rfl, HM.out⟩
end Go.Proofs.Ytahbnbaldoblaaa.Fx
