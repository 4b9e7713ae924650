/- Layer 14: PackCounts. -/
import Derived.Test.YtecfnimpakmiaaaPaD
namespace Go.Proofs.Ytecfnimpakmiaaa.Fx
open Go.ChangeShapes Go.WideShapes Go.ChangeAt Go.RowKit
set_option linter.unusedVariables false

theorem OB.two (w : World) (x y : Nat) (f : Nat → Nat) (h0 : f 0 = x) (h1 : f 1 = y) : OB (w.alloc (.cells #[Value.int .u8 (x : Nat), Value.int .u8 (y : Nat)] 5)) w.heap.size (.slice (some ⟨w.heap.size, 0, none⟩) 2 2) 2 f := by
  refine ⟨by rw [bl_len, Nat.mul_one], .inr ⟨w.heap.size, 2, _, rfl, Nat.le_refl _, has_new w _ _, Nat.le_refl _, by unfold maxLen; omega, rfl, ?_⟩⟩
  show [Value.int .u8 (x : Nat), Value.int .u8 (y : Nat)] = bl f 2
  rw [← h0, ← h1]
  rfl
set_option maxRecDepth 100000 in
set_option maxHeartbeats 4000000 in
theorem pcounts_walk {n c x : Nat} {ao : Option Addr} {f : Nat → Nat} {most : Int} {w : World} (hA : ByIn w ao n c f) (hx : x < 65536) :
    Calls Try.prog 4 #[.int .u16 (x : Nat), .int .i64 most, .slice ao n c] w fun e w' => e = .returned (.bool true) ∧ Made w.heap.size w w' := by
  obtain ⟨hA, hf, hnc, hn⟩ := hA
  have HA := hid hA; have HF := hid hf
  obtain ⟨y0, e0⟩ : ∃ y, x % 256 = y := ⟨_, rfl⟩
  obtain ⟨y1, e1⟩ : ∃ y, x / 256 = y := ⟨_, rfl⟩
  have d0 : (x : Int) % 256 = (y0 : Int) := by omega
  have d1 : (x : Int) / 256 = (y1 : Int) := by omega
  have d2 : (y1 : Int) % 256 = (y1 : Int) := by omega
  have HX : Hid (y0 + 256 * y1 = x) := by unfold Hid; omega
  have l0 : y0 < 256 := by omega
  have l1 : y1 < 256 := by omega
  clear hA hf hnc e0 e1
  go_enter Try.func4, Try.ntmps4
  go_wp2_with fail
  refine pfit_c.mono ?_
  rintro e w1 ⟨rfl, hM⟩
  have HM := hid hM
  have HA1 := hid (HA.out.kept hM)
  clear hM HA
  by_cases hlen : n > 100
  · go_wp2_with fail
    go_ret
    exact ⟨rfl, HM.out⟩
  · obtain ⟨g, eg⟩ : ∃ g : Nat → Nat, g = joinB (fun i => if i = 0 then y0 else y1) f 2 := ⟨_, rfl⟩
    have g0 : g 0 = y0 := by rw [eg]; rfl
    have g1 : g 1 = y1 := by rw [eg]; rfl
    have HG : Hid (∀ i, g i < 256) := fun i => by
      rw [eg]; unfold joinB; split
      · dsimp only; split
        · exact l0
        · exact l1
      · exact HF.out _
    obtain ⟨W, eW⟩ : ∃ W, W = w1.alloc (.cells #[Value.int .u8 (y0 : Nat), Value.int .u8 (y1 : Nat)] 5) := ⟨_, rfl⟩
    have hMW : Made w1.heap.size w1 W := by rw [eW]; exact (Made.rfl_ _ _).cells (Nat.le_refl _) _ _
    have hOW : OB W w1.heap.size (.slice (some ⟨w1.heap.size, 0, none⟩) 2 2) 2 (fun i => if i = 0 then y0 else y1) := by rw [eW]; exact OB.two w1 y0 y1 _ rfl rfl
    obtain ⟨v3, w3, hr3, hO3, hg3, hz3⟩ := append_by (c := c) 22 hOW (HA1.out.kept hMW) (by omega) hMW.1.size
    have hM3 : Made w1.heap.size w1 w3 := hMW.app hg3 hz3 hMW.1.size (fun b hb => (hOW.lt b hb).1)
    obtain ⟨o3, c3, rfl, hc3, hc4, _⟩ := hO3.shape
    rw [← eg] at hO3
    have HR3 : Hid ((Builtin.append_ #[22, 22] 22 #[.slice (some ⟨w1.heap.size, 0, none⟩) 2 2, .slice ao n c]).run Try.prog (w1.alloc (.cells #[Value.int .u8 (y0 : Nat), Value.int .u8 (y1 : Nat)] 5)) = .ok (.slice o3 (2 + n) c3) w3) := by rw [eW] at hr3; exact hr3
    have HO3 := hid hO3
    have HM3 := hid (HM.out.then_ (hM3.low HM.out.1.size))
    clear hr3 hO3 hg3 hz3 hM3 hMW hOW eW HA1 hc4
    go_wp2_with (at_builtin; refine Lib.wpList_append_run _ rfl _ _ _ _ rfl _ _ rfl rfl _ _ HR3.out ?_)
    refine (pnew_c HO3.out.by_ (by omega)).mono ?_
    rintro e w4 ⟨pb, ao4, c4, rfl, hp, hR, hM⟩
    have HB4 := hid (HO3.out.by_.kept hM)
    have HOF : Hid (∀ b off, o3 = some ⟨b, off, none⟩ → b ≠ pb) := fun b off e => by
      have := (HO3.out.lt b (by rw [e]; rfl)).2
      omega
    have HM4 := hid (HM3.out.then_ (hM.low HM3.out.1.size))
    have HP := hid (Nat.le_trans HM3.out.1.size hp)
    have HR := hid hR
    clear hR hM hp HO3 HR3
    have hxx : g 0 + 256 * g 1 = x := by rw [g0, g1]; exact HX.out
    by_cases hm : most < x
    · have e2 : decide ((x : Int) > most) = true := decide_eq_true (by omega)
      have HC := hid (rcountb_c HR.out HG.out (by omega) hxx hm)
      clear hxx g0 g1 eg
      go_wp2_with fail
      refine HC.out.mono ?_
      rintro e w5 ⟨rfl, hx5, ho⟩
      have HX5 := hid hx5
      have HM5 := hid (On1.made_ HM4.out ho HM4.out.1.size HP.out)
      clear hx5 ho
      go_wp2_with fail
      refine (rbadx_c HX5.out).mono ?_
      rintro e w6 ⟨rfl, rfl⟩
      go_wp2_with fail
      go_ret
      exact ⟨rfl, HM5.out⟩
    · have e2 : decide ((x : Int) > most) = false := decide_eq_false (by omega)
      have HC := hid (rcount_c (most := most) HR.out HG.out (by omega) hxx (by omega))
      clear hxx g0 g1 eg
      go_wp2_with fail
      refine HC.out.mono ?_
      rintro e w5 ⟨rfl, ⟨ao5, c5, hx5⟩, ho⟩
      have HX5 : Hid (Re w5 pb ao5 n c5 fun i => g (2 + i)) := by
        have := hx5
        rw [Nat.add_sub_cancel_left] at this
        exact this
      have HB5 := hid ((HB4.out.on1 ho HOF.out).take (m := 1) (by omega))
      have HM5 := hid (On1.made_ HM4.out ho HM4.out.1.size HP.out)
      clear hx5 ho
      go_wp2_with fail
      refine (rbad_c HX5.out).mono ?_
      rintro e w6 ⟨rfl, rfl⟩
      go_wp2_with fail
      refine (rleft_c HX5.out).mono ?_
      rintro e w6 ⟨rfl, rfl⟩
      go_wp2_with fail
      refine (pnew_c HB5.out (by omega)).mono ?_
      rintro e w7 ⟨pb7, ao7, c7, rfl, hp, hR, hM⟩
      have HR7 := hid hR
      have HM7 := hid (HM5.out.then_ (hM.low HM5.out.1.size))
      have HP7 := hid (Nat.le_trans HM5.out.1.size hp)
      clear hR hM hp
      go_wp2_with fail
      refine (rcounts_c HR7.out (by omega)).mono ?_
      rintro e w8 ⟨rfl, _, ho⟩
      have HM8 := hid (On1.made_ HM7.out ho HM7.out.1.size HP7.out)
      clear ho
      go_wp2_with fail
      go_ret
      exact ⟨rfl, HM8.out⟩
theorem pcounts_i {n c : Nat} {x : Int} {ao : Option Addr} {f : Nat → Nat} {most : Int} {w : World} (h0 : (Lit.int .u16 x).wf = true) (hA : ByIn w ao n c f) :
    Calls Try.prog 4 #[.int .u16 x, .int .i64 most, .slice ao n c] w fun e w' => e = .returned (.bool true) ∧ Made w.heap.size w w' := by
  have b0 := bounds_u16 h0
  have h := pcounts_walk (x := x.toNat) (most := most) hA (by omega)
  rwa [show ((x.toNat : Nat) : Int) = x by omega] at h
end Go.Proofs.Ytecfnimpakmiaaa.Fx
