/- Layer 17: DiskArms, its walk. -/
import Derived.Test.YtdaelblapgcljaaDlB
namespace Go.Proofs.Ytdaelblapgcljaa.Fx
open Go.ChangeShapes Go.WideShapes Go.ChangeAt Go.RowKit Go.Maps Go.Sort
set_option linter.unusedVariables false

theorem list1 : ([1] : List Nat).length = 1 := rfl
set_option maxRecDepth 100000 in
set_option maxHeartbeats 8000000 in
theorem darms_walk {x y : Nat} {w : World} (hx : x < 256) (hy : y < 256) : Calls Try.prog 4 #[.int .u8 (x : Nat), .int .u8 (y : Nat)] w fun e w' => e = .returned (.bool true) ∧ Below w.heap.size w w' := by
  obtain ⟨dn, edn⟩ : ∃ dn, x % 20 = dn := ⟨_, rfl⟩
  obtain ⟨fl, efl⟩ : ∃ fl, y % 24 = fl := ⟨_, rfl⟩
  have r1 : (x : Int).tmod 20 = (dn : Int) := by rw [Int.tmod_eq_emod_of_nonneg (by omega)]; omega
  have r2 : (y : Int).tmod 24 = (fl : Int) := by rw [Int.tmod_eq_emod_of_nonneg (by omega)]; omega
  have r3 : (x : Int) % 20 = (dn : Int) := by omega
  have r4 : (y : Int) % 24 = (fl : Int) := by omega
  have hdn : dn < 20 := by omega
  have hfl : fl < 24 := by omega
  have HD := hid (And.intro hdn hfl)
  go_enter Try.func4, Try.ntmps4
  go_wp2_with fail
  refine dfit_c.mono ?_
  rintro e w1 ⟨rfl, hb1⟩
  have HB1 := hid hb1
  clear hb1
  go_wp2_with fail
  refine (oNew (room := 1048576) (by omega) (by omega) HB1.out HB1.out.size).mono ?_
  rintro e w2 ⟨p, rfl, h2, _, _⟩
  have h2 := hid h2
  clear HB1
  go_wp2_with fail
  refine (oCreate h2.out (s := sA) (by omega) (by decide)).mono ?_
  rintro e w3 ⟨rfl, h3, _⟩
  have h3 := hid h3
  clear h2
  go_wp2_with fail
  refine (oArm h3.out (x := (dn : Int)) (y := (fl : Int)) (by omega) (by omega)).mono ?_
  rintro e w4 ⟨rfl, h4, _⟩
  rw [stA_start dn fl hdn hfl] at h4
  have h4 := hid h4
  clear h3
  go_wp2_with fail
  refine (oOps h4.out).mono ?_
  rintro e w4' ⟨rfl, rfl⟩
  rw [show (stA dn fl 0 0 false).ops = 1 from rfl]
  go_wp2_with fail
  go_loopg [9, 31] 30 (fun g s i wx => ∃ j z : Nat, j + g = 30 ∧ i = .int .i64 (j : Nat) ∧ s = .int .i64 (z : Nat) ∧ z ≤ j ∧ Hid (On w.heap.size w wx p (stA dn fl j z (decide (dn < j))) (1 + 2 * j) []))
  case atStart => exact ⟨0, 0, by omega, by first | rfl | trivial, by first | rfl | trivial, Nat.le_refl _, h4.out⟩
  case round =>
    obtain ⟨j, z, hj, rfl, rfl, hzj, HB⟩ := hrel
    by_cases hlt : j < 30
    · obtain ⟨W5, eW5⟩ : ∃ W5, W5 = wr.alloc (.cells #[.int .u8 1] 5) := ⟨_, rfl⟩
      have hb5 : Below wr.heap.size wr W5 := by rw [eW5]; exact below_new _ _
      have h5 := hid (HB.out.fresh hb5 (g := wr.heap.size) (Nat.le_refl _) (by rw [eW5]; simp))
      have y5 : Hid (By W5 (some ⟨wr.heap.size, 0, none⟩) 1 (gb [1])) := by
        unfold Hid; rw [eW5]
        exact by_const (l := [1]) (fun i hi => by
          match i, hi with
          | 0, _ => rfl) _
      have EW5 := hid eW5
      clear eW5 hb5 HB h4
      go_wp2_with fail
      rw [← EW5.out]
      refine (oAppend h5.out (s := sA) (by decide) (b := [1]) (cb := 1) (by rw [list1]; omega) y5.out (fun _ x off e => by cases e; exact .inl (by simp)) (by decide)).mono ?_
      rintro e w6 ⟨rfl, h6, _⟩
      have down : ∀ {d : Dsk} {n : Nat}, On w.heap.size w w6 p d n [wr.heap.size] → On w.heap.size w w6 p d n [] := fun h => by
        obtain ⟨k, e, h⟩ := h
        exact ⟨k, e, h.at_, h.ol, h.bud, h.bel, h.lo, h.foot, fun b hb => by cases hb⟩
      have h6 := down h6
      clear down
      by_cases hd : dn ≤ j
      · rw [app_down dn fl j z hd] at h6 ⊢
        have h6 := hid h6
        have q1 : decide ((j : Int) ≥ (dn : Int)) = true := decide_eq_true (by omega)
        have hd := hid hd
        have hoff : (stA dn fl (j + 1) z (decide (dn < j + 1))).off = true := by show decide (dn < j + 1) = true; exact decide_eq_true (by have := hd.out; omega)
        have HOFF := hid hoff
        clear h5 y5 hoff EW5
        go_wp2_with fail
        refine (oDown h6.out).mono ?_
        rintro e w6' ⟨rfl, rfl⟩
        rw [HOFF.out]
        go_wp2_with fail
        refine (oSize h6.out (by rw [list1]; omega)).mono ?_
        rintro e w7 ⟨rfl, h7, _⟩
        rw [size_stA]
        have h7 := hid h7
        go_wp2_with fail
        refine (oOps h7.out).mono ?_
        rintro e w7' ⟨rfl, rfl⟩
        rw [show (stA dn fl (j + 1) z (decide (dn < j + 1))).ops = ((1 + (j + 1) : Nat) : Int) from rfl]
        have q2 : (((1 + (j + 1) : Nat) : Int) == 1 + (j : Int) + 1) = true := by simp; omega
        go_wp2_with fail
        go_roundg (30 - j - 1)
        case rel => exact ⟨j + 1, z, by omega, by go_num, rfl, by omega, by have := h7.out; rw [list1] at this; rw [show 1 + 2 * (j + 1) = 1 + 2 * j + 1 + 1 by omega]; exact this⟩
        case measure => omega
      · by_cases hf : j = fl
        · rw [app_fail dn fl j z hd hf] at h6 ⊢
          have h6 := hid h6
          have q1 : decide ((j : Int) ≥ (dn : Int)) = false := decide_eq_false (by omega)
          have q3 : ((j : Int) == (fl : Int)) = true := by simp; omega
          have hd := hid hd
          clear h5 y5 EW5
          go_wp2_with fail
          refine (oSize h6.out (by rw [list1]; omega)).mono ?_
          rintro e w7 ⟨rfl, h7, _⟩
          rw [size_stA]
          have h7 := hid h7
          go_wp2_with fail
          refine (oOps h7.out).mono ?_
          rintro e w7' ⟨rfl, rfl⟩
          rw [show (stA dn fl (j + 1) z (decide (dn < j + 1))).ops = ((1 + (j + 1) : Nat) : Int) from rfl]
          have q2 : (((1 + (j + 1) : Nat) : Int) == 1 + (j : Int) + 1) = true := by simp; omega
          go_wp2_with fail
          go_roundg (30 - j - 1)
          case rel => exact ⟨j + 1, z, by omega, by go_num, by first | rfl | go_num, by omega, by have := h7.out; rw [list1] at this; rw [show 1 + 2 * (j + 1) = 1 + 2 * j + 1 + 1 by omega]; exact this⟩
          case measure => omega
        · rw [app_good dn fl j z hd hf (by omega)] at h6 ⊢
          have h6 := hid h6
          have q1 : decide ((j : Int) ≥ (dn : Int)) = false := decide_eq_false (by omega)
          have q3 : ((j : Int) == (fl : Int)) = false := by simp; omega
          have hd := hid hd
          clear h5 y5 EW5
          go_wp2_with fail
          refine (oSize h6.out (by rw [list1]; omega)).mono ?_
          rintro e w7 ⟨rfl, h7, _⟩
          rw [size_stA]
          have h7 := hid h7
          go_wp2_with fail
          refine (oOps h7.out).mono ?_
          rintro e w7' ⟨rfl, rfl⟩
          rw [show (stA dn fl (j + 1) (z + 1) (decide (dn < j + 1))).ops = ((1 + (j + 1) : Nat) : Int) from rfl]
          have q2 : (((1 + (j + 1) : Nat) : Int) == 1 + (j : Int) + 1) = true := by simp; omega
          go_wp2_with fail
          go_roundg (30 - j - 1)
          case rel => exact ⟨j + 1, (z + 1), by omega, by go_num, by first | rfl | go_num, by omega, by have := h7.out; rw [list1] at this; rw [show 1 + 2 * (j + 1) = 1 + 2 * j + 1 + 1 by omega]; exact this⟩
          case measure => omega
    · have e : j = 30 := by omega
      subst e
      obtain ⟨W5, eW5⟩ : ∃ W5, W5 = wr.alloc (.cells #[.int .i64 5] 3) := ⟨_, rfl⟩
      have hb5 : Below wr.heap.size wr W5 := by rw [eW5]; exact below_new _ _
      have h5 := hid (HB.out.fresh hb5 (g := wr.heap.size) (Nat.le_refl _) (by rw [eW5]; simp))
      have y5 : Hid (InK W5 (some ⟨wr.heap.size, 0, none⟩) [5]) := by
        unfold Hid; rw [eW5]
        intro _
        refine ⟨_, 0, rfl, fun i hi => ?_⟩
        match i, hi with
        | 0, _ => rw [(has_new wr _ _).at_]; rfl
      have EW5 := hid eW5
      clear eW5 hb5 HB h4
      go_wp2_with fail
      rw [← EW5.out]
      refine (oCrash h5.out (by omega) (x := 1) (by omega) (kl := [5]) (ak := some ⟨wr.heap.size, 0, none⟩) (ck := 1) y5.out (fun _ b off e => by cases e; exact .inl (by simp)) (Nat.le_refl _) (by omega) (fun x hx => by rw [List.mem_singleton.1 hx]; omega)).mono ?_
      rintro e w6 ⟨rfl, h6, _⟩
      rw [crash_stA] at h6
      obtain ⟨Y, eY⟩ : ∃ Y, [wr.heap.size] = Y := ⟨_, rfl⟩
      rw [eY] at h6
      have h6 := hid h6
      clear h5 y5 EW5 eY
      go_wp2_with fail
      refine (oRead h6.out (by omega) (s := sA) (by decide)).mono ?_
      rintro e w7 ⟨v, rfl, hO, h7, _, _⟩
      rw [read_endA] at hO h7 ⊢
      have hO : OB w7 w.heap.size v (List.replicate (min z 5) 1).length (gb (List.replicate (min z 5) 1)) := hO
      rw [List.length_replicate] at hO
      obtain ⟨ao, c, rfl, _⟩ := hO.shape
      have h7 := hid h7
      obtain ⟨M, eM⟩ : ∃ M, min z 5 = M := ⟨_, rfl⟩
      have q3 : min (z : Int) 5 = (M : Int) := by omega
      rw [eM]
      clear h6 hO eM
      go_wp2_with fail
      refine (oDown h7.out).mono ?_
      rintro e w7' ⟨rfl, rfl⟩
      rw [show (opD (endA 30 z)).1.off = false by rfl]
      go_wp2_with fail
      go_ret
      exact ⟨rfl, h7.out.below⟩
theorem darms_i {a b : Int} {w : World} (h0 : (Lit.int .u8 a).wf = true) (h1 : (Lit.int .u8 b).wf = true) : Calls Try.prog 4 #[.int .u8 a, .int .u8 b] w fun e w' => e = .returned (.bool true) ∧ Below w.heap.size w w' := by
  have b0 := bounds_u8 h0
  have b1 := bounds_u8 h1
  obtain ⟨x, rfl⟩ : ∃ x : Nat, a = (x : Int) := ⟨a.toNat, by omega⟩
  obtain ⟨y, rfl⟩ : ∃ y : Nat, b = (y : Int) := ⟨b.toNat, by omega⟩
  exact darms_walk (by omega) (by omega)
end Go.Proofs.Ytdaelblapgcljaa.Fx
