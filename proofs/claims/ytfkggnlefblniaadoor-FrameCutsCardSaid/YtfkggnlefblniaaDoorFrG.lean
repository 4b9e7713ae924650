/- Layer 16: FrameAny. -/
import Derived.Test.YtfkggnlefblniaaDoorFrE
import Derived.Test.YtfkggnlefblniaaDoorMky
namespace Go.Proofs.YtfkggnlefblniaaDoor.Fx
open Go.ChangeShapes Go.WideShapes Go.ChangeAt Go.RowKit
set_option linter.unusedVariables false

theorem fret_b {a b : Bool} (h : a = b) : Ending.returned (.bool a) = .returned (.bool b) := by rw [h]
def alBy (Z M : Nat) (F : Nat → Nat) (i : Nat) (v : World) (g : Nat) (e : MY.Ex) : Prop := OB v Z e.v M F
theorem alBy_lasts (Z M : Nat) (F : Nat → Nat) : MY.Lasts (alBy Z M F) := fun i u v g e h hh k => OB.kept h k
def valBy (i g : Nat) (e : MY.Ex) : Value := e.v
set_option maxRecDepth 100000 in
set_option maxHeartbeats 8000000 in
theorem fany_walk {n c : Nat} {ao : Option Addr} {g : Nat → Nat} {most : Int} {w : World} (hT : Tab w) (hA : ByIn w ao n c g) (hm1 : -9223372036854775808 ≤ most) (hm2 : most ≤ 9223372036854775807) :
    Calls Tryd.prog 6 #[.slice ao n c, .int .i64 most] w fun e w' => e = .returned (.bool true) ∧ Below w.heap.size w w' := by
  obtain ⟨hA, hg, hnc, hn⟩ := hA
  have HA := hid hA; have HT := hid hT; have HF := hid hg
  clear hA hT hg
  go_enter Tryd.func6, Tryd.ntmps6
  go_wp2_with fail
  refine (ffit_c HT.out).mono ?_
  rintro e w1 ⟨rfl, hw1⟩
  have HA1 := hid (HA.out.bel hw1)
  have HT1 := hid (HT.out.bel hw1)
  have HW1 := hid hw1
  clear hw1 HA HT
  by_cases hlen : n > 2000
  · go_wp2_with fail
    go_ret
    exact ⟨rfl, HW1.out⟩
  go_wp2_with fail
  refine (next_c (c := c) HF.out HT1.out HA1.out hnc (by omega) hm1 hm2).mono ?_
  rintro e w2 ⟨a, v, k, q, rfl, hq, ht, hf, hM⟩
  have HQ := hid hq
  cases q with
  | false =>
    obtain ⟨rfl, rfl, rfl⟩ := hf rfl
    have HM : Hid (Below w.heap.size w (w2.alloc (.cells #[Value.int .i64 0, Value.slice none 0 0] 28))) := (HW1.out.trans (hM.1.mono HW1.out.size)).trans ((below_new w2 _).mono (Nat.le_trans HW1.out.size hM.1.size))
    clear hq ht hf hM HQ
    go_wp2_with fail
    go_ret
    exact ⟨rfl, HM.out⟩
  | true =>
    obtain ⟨ea, ek, ao2, c2, rfl, hc2, hO⟩ := ht rfl
    have HR : Hid (IsRec g n most) := HQ.out.1 rfl
    obtain ⟨s, es⟩ : ∃ s, sizeF g = s := ⟨_, rfl⟩
    have HX := hid (rec_of HF.out HR.out)
    rw [es] at ek hc2 hO HX
    rw [← ea] at HX
    have hr1 : 0 ≤ a := by rw [ea]; exact HR.out.2.2.1
    have hr2 : (s : Int) ≤ most := by rw [← es]; exact HR.out.2.2.2.1
    have hr3 : k ≤ n := by rw [ek, ← es]; exact HR.out.2.2.2.2.1
    have hr4 : a ≤ 9223372036854775807 := by rw [ea]; exact (valI_i64 _ (fun i => HF.out _) 8 (by omega)).2
    obtain ⟨W, eW⟩ : ∃ W, W = w2.alloc (.cells #[Value.int .i64 a, Value.slice ao2 s c2] 28) := ⟨_, rfl⟩
    obtain ⟨G, eG⟩ : ∃ G, w2.heap.size = G := ⟨_, rfl⟩
    have KW : Made w2.heap.size w2 W := by rw [eW]; exact (Made.rfl_ _ _).cells (Nat.le_refl _) _ _
    have HG : Has W G 28 #[Value.int .i64 a, Value.slice ao2 s c2] := by rw [eW, ← eG]; exact has_new _ _ _
    have z0 := HG.at_ 0
    have z1 := HG.at_ 1
    simp at z0 z1
    have HB := hid (hO.by_.kept KW)
    have HA2 := hid ((HA1.out.kept hM).kept KW)
    have HT2 := hid ((HT1.out.kept hM).kept KW)
    have HW2 : Hid (Below w.heap.size w W) := (HW1.out.trans (hM.1.mono HW1.out.size)).trans (KW.1.mono (Nat.le_trans HW1.out.size hM.1.size))
    have HK := hid ek
    obtain ⟨X, eX⟩ : ∃ X, strB g k = X := ⟨_, rfl⟩
    have EX := hid eX
    have hk20 : 20 ≤ k := by omega
    have HXX : Hid (strB (recF (payF g) s a) (s + 20) = X) := by
      unfold Hid
      rw [← EX.out, HK.out]
      exact strB_congr _ HX.out
    obtain ⟨bb, off, rfl, _⟩ := HA2.out (by omega)
    have d1 : decide ((k : Int) ≤ (n : Int)) = true := decide_eq_true (by omega)
    have d2 : decide ((s : Int) ≤ most) = true := decide_eq_true hr2
    have d3 : decide (0 ≤ a) = true := decide_eq_true hr1
    have hs32 : s ≤ 4294967295 := by omega
    have mkb : Hid (∀ (G' : Nat → Option (Nat × MY.Ex)) (u : World), MY.Cm W (alBy W.heap.size (s + 20) (recF (payF g) s a)) G' u → Calls Tryd.prog 10 #[.int .i64 a, .slice ao2 s c2] u fun e v => ∃ x, e = .returned x ∧ OB v W.heap.size x (s + 20) (recF (payF g) s a) ∧ Made u.heap.size u v) := fun G' u hu => by
      refine (fbytes_c (p := payF g) (fun i => HF.out _) (HT2.out.kept hu.1) (HB.out.kept hu.1) hs32 (by omega) hr4).mono ?_
      rintro e v ⟨ao', c', rfl, hc', h1, h2⟩
      exact ⟨_, rfl, h1.low hu.1.1.size, h2⟩
    have HZ0 := hid z0; have HZ1 := hid z1
    rw [es]
    clear hq ht hf hM HQ ek eX hO KW HG HX z0 z1 ea es
    go_upto_region 8 with fail
    try rw [eG]
    rw [← eW]
    clear eW eG
    refine MY.reg_mk (alBy W.heap.size (s + 20) (recF (payF g) s a)) 29 [0, 1, 2, 3, 4, 5, 6, 7, 8, 9, 10, 11, 12, 13, 14, 15, 16, 17, 18, 19, 20, 23, 24, 25, 26, 21, 22, 27, 28] [0, 1, 2, 3, 4, 5, 6, 7, 8, 9, 10, 11, 12, 13, 14, 15, 16, 17, 18, 19, 20, 23, 24, 25, 26, 22, 27, 28] [21] [] (fun i => if i = 22 then [21] else []) (val := valBy) (by kernel_rfl) (by kernel_rfl) (fun p hp => absurd hp (by simp)) ?_
    refine MY.can_class (rest := [21, 22, 27, 28]) [0, 1, 2, 3, 4, 5, 6, 7, 8, 9, 10, 11, 12, 13, 14, 15, 16, 17, 18, 19, 20, 23, 24, 25, 26] [] 64 (alBy_lasts _ _ _) (MY.any_class _) (by kernel_rfl) rfl (by kernel_rfl) (by kernel_rfl) ?_
    apply Exists.intro
    refine ⟨?r1, ?r2⟩
    case r1 =>
      intro Ty hTT fw hf _
      have hq6 : ∀ x, (convert 22 9 (.slice (some ⟨bb, off, none⟩) k c)).run Tryd.prog (fw x) = .ok (.string X) (fw x) := fun x => by
        rw [← EX.out]
        exact conv_by ((HA2.out.kept (hf.1 x)).take hr3)
      have x0 := Class.reads hf HZ0.out
      have x1 := Class.reads hf HZ1.out
      change wpQuiet _ _ _ _ [_, _, _, _, _, _, _, _, _, _, _, _, _, _, _, _, _, _, _, _, _, _, _, _, _] _
      repeat (go_big_quiet_step (rfl))
      exact wpQuiet_nil rfl
    refine MY.can_mk 21 56 _ rfl rfl rfl (by rfl) ?m2 fun q2 e2 => ?n2
    case m2 =>
      intro G' u _ hu
      rw [show (execOp _ _).run Tryd.prog u = .ok (.enter 10 #[.int .i64 a, .slice ao2 s c2]) u by kernel_rfl]
      show Calls _ _ _ _ _
      refine (mkb.out G' u hu).mono ?_
      rintro e v ⟨x, rfl, h1, h2⟩
      exact ⟨u.heap.size, ⟨v.heap.size, x⟩, rfl, hu.next (alBy_lasts _ _ _) h2 (Nat.le_refl _) h2.1.size (Nat.le_refl _) h1⟩
    rw [show valBy 21 q2 e2 = e2.v from rfl]
    simp only [Act.put, List.setIfInBounds_toArray, List.set_cons_succ, List.set_cons_zero]
    refine MY.can_one 22 57 _ (.string X) [21] (alBy_lasts _ _ _) (by kernel_rfl) rfl rfl (of_decide_eq_true rfl) (by kernel_rfl) ?r3 ?r4
    case r3 =>
      intro Ty hTT fw hf hmm
      try simp only [List.getElem_toArray, List.getElem_cons_succ, List.getElem_cons_zero]
      have hm2 := fun x => (hmm 21 (by simp) (q2, e2) (by unfold MY.upd; simp) x).2.2.2
      obtain ⟨x0⟩ := hTT
      have hx0 : OB (fw x0) W.heap.size e2.v (s + 20) (recF (payF g) s a) := hm2 x0
      obtain ⟨ao5, c5, ev5, _⟩ := hx0.shape
      have hq5 : ∀ x, (convert 22 9 (.slice ao5 (s + 20) c5)).run Tryd.prog (fw x) = .ok (.string X) (fw x) := fun x => by
        have h : OB (fw x) W.heap.size e2.v (s + 20) (recF (payF g) s a) := hm2 x
        rw [ev5] at h
        rw [← HXX.out]
        exact conv_by h.by_
      rw [ev5]
      clear hmm hm2 hx0
      repeat (go_big_quiet_step (rfl))
      exact wpQuiet_nil rfl
    simp only [Act.put, List.setIfInBounds_toArray, List.set_cons_succ, List.set_cons_zero]
    refine MY.can_class (rest := []) [27, 28] [] 64 (alBy_lasts _ _ _) (MY.any_class _) (by kernel_rfl) rfl (by kernel_rfl) (by kernel_rfl) ?_
    apply Exists.intro
    refine ⟨?r5, ?r6⟩
    case r5 =>
      intro Ty hTT fw hf _
      have hbb : (X.toList == X.toList) = true := by simp
      change wpQuiet _ _ _ _ [_, _] _
      repeat (go_big_quiet_step (rfl))
      exact wpQuiet_nil rfl
    intro w9 hu
    have HM9 : Hid (Below w.heap.size w w9) := HW2.out.trans (hu.1.1.mono HW2.out.size)
    clear hu
    simp only [List.drop_succ_cons, List.drop_zero]
    go_wp2_with fail
    refine NoPanic.normal ?_
    go_wp2_with fail
    go_ret
    exact ⟨rfl, HM9.out⟩
end Go.Proofs.YtfkggnlefblniaaDoor.Fx
