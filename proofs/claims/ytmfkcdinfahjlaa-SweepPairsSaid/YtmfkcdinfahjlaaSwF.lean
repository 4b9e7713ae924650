/- The anchor. -/
import Derived.Test.YtmfkcdinfahjlaaSwU
import Derived.Test.YtmfkcdinfahjlaaSwV
import Derived.Test.YtmfkcdinfahjlaaSwE
namespace Go.Proofs.Ytmfkcdinfahjlaa.Fx
open Go.ChangeShapes Go.WideShapes Go.ChangeAt Go.RowKit
set_option linter.unusedVariables false

theorem fit_one : pairsF [⟨7, 0, 0, 4, 4, false⟩, ⟨3, 0, 0, 4, 4, true⟩] = [(3, 7)] := by
  have e : collect [⟨7, 0, 0, 4, 4, false⟩, ⟨3, 0, 0, 4, 4, true⟩] = [(3, 7)] := by decide
  rw [pairsF_short (by rw [e]; decide), e]
theorem fit_two : pairsF [⟨1, 0, 0, 4, 4, true⟩, ⟨2, 0, 0, 4, 4, true⟩] = [] := by
  have e : collect [⟨1, 0, 0, 4, 4, true⟩, ⟨2, 0, 0, 4, 4, true⟩] = [] := by decide
  rw [pairsF_short (by rw [e]; decide), e]
theorem two_items {w : World} {b : Nat} {x y : It} {t : TypeId} (h : Has w b t #[.int .i64 x.id, .int .i64 x.lx, .int .i64 x.ly, .int .i64 x.hx, .int .i64 x.hy, .bool x.st, .int .i64 y.id, .int .i64 y.lx, .int .i64 y.ly, .int .i64 y.hx, .int .i64 y.hy, .bool y.st]) : LsT encI 6 w (some ⟨b, 0, none⟩) [x, y] := fun _ => ⟨b, 0, rfl, h.here, fun i z hi j v hv => by
  rw [h.at_]
  rcases i with _ | _ | i
  · simp at hi
    subst hi
    rcases j with _ | _ | _ | _ | _ | _ | j
    all_goals (first | (simp [encI] at hv; done) | (rw [← hv]; rfl))
  · simp at hi
    subst hi
    rcases j with _ | _ | _ | _ | _ | _ | j
    all_goals (first | (simp [encI] at hv; done) | (rw [← hv]; rfl))
  · simp at hi⟩
theorem its_two {x y : It} (h : ItI x) (k : ItI y) : ItsI [x, y] := fun z hz => by
  simp at hz
  rcases hz with rfl | rfl
  · exact h
  · exact k

set_option maxRecDepth 100000 in
set_option maxHeartbeats 4000000 in
theorem swfit_c (w : World) : Calls Try.prog 17 #[] w fun e w' => e = .returned (.bool true) ∧ Below w.heap.size w w' := by
  have H1 := hid (fun (w : World) (b : Nat) (t : TypeId) h => pairs_c (c := 2) (n := 2) (w := w) rfl (two_items (w := w) (b := b) (t := t) (x := ⟨7, 0, 0, 4, 4, false⟩) (y := ⟨3, 0, 0, 4, 4, true⟩) h) (.inr ⟨_, _, rfl⟩) (by omega) (fun e => by cases e) (its_two (by unfold ItI I64; simp) (by unfold ItI I64; simp)))
  have H2 := hid (fun (w : World) (b : Nat) (t : TypeId) h => pairs_c (c := 2) (n := 2) (w := w) rfl (two_items (w := w) (b := b) (t := t) (x := ⟨1, 0, 0, 4, 4, true⟩) (y := ⟨2, 0, 0, 4, 4, true⟩) h) (.inr ⟨_, _, rfl⟩) (by omega) (fun e => by cases e) (its_two (by unfold ItI I64; simp) (by unfold ItI I64; simp)))
  rw [fit_one] at H1
  rw [fit_two] at H2
  go_enter Try.func17, Try.ntmps17
  go_wp2_with fail
  refine (H1.out _ _ 61 (has_nxt _ _ _ _)).mono ?_
  rintro e w1 ⟨bo, d, rfl, hL, hf, hb⟩
  obtain ⟨b, off, rfl, hbl, hLB⟩ := hL (by simp)
  obtain ⟨a0, a1⟩ := (hLB 0 _ rfl).p2
  have r0 := Below.reads hb (p := ⟨w.heap.size, 0, none⟩) (x := .int .i64 0) (by go_simp)
  have r1 := Below.reads hb (p := ⟨w.heap.size, 1, none⟩) (x := .int .i64 0) (by go_simp)
  have r2 := Below.reads hb (p := ⟨w.heap.size, 2, none⟩) (x := .int .i64 4) (by go_simp)
  have r3 := Below.reads hb (p := ⟨w.heap.size, 3, none⟩) (x := .int .i64 4) (by go_simp)
  simp at a0 a1
  have HB : Hid (Below w.heap.size w w1) := (((Below.refl _ w).alloc (Nat.le_refl _) _).alloc (by simp) _).trans (hb.mono (by simp; omega))
  have lw1 : w.heap.size ≤ w1.heap.size := HB.out.size
  have PE := peql 3 7 3 7
  simp at PE
  clear hL hf hLB hb
  go_wp2_with fail
  refine (H2.out _ _ 61 (has_new _ _ _)).mono ?_
  rintro e w2 ⟨bo, d, rfl, hL, hf, hb⟩
  have HB2 : Hid (Below w.heap.size w w2) := (HB.out.alloc lw1 _).trans (hb.mono (by simp; omega))
  clear hL hf hb
  go_wp2_with fail
  go_ret
  exact ⟨rfl, HB2.out⟩
end Go.Proofs.Ytmfkcdinfahjlaa.Fx
