/- What package touch is to answer, as one premise; the statements' own same. -/
import Derived.Test.YtckgpkbdckpcmaaTouchA
import Derived.Test.YtckgpkbdckpcmaaTouchC
namespace Go.Proofs.Ytckgpkbdckpcmaa.Fx
open Go.ChangeShapes Go.WideShapes Go.ChangeAt Go.RowKit
set_option linter.unusedVariables false

structure TouchSays : Prop where
  of : ∀ (X Y A K R X2 Y2 A2 K2 R2 : Int) (s s2 : Value) (b b2 : Bdy) (w : World), BodyAt w X Y A K R s b → BodyAt w X2 Y2 A2 K2 R2 s2 b2 →
    Calls Try.prog 11 #[bodyV 0 X Y 0 0 A 0 0 K R s, bodyV 0 X2 Y2 0 0 A2 0 0 K2 R2 s2] w (TouchR (wantF b b2) w)
  gap : ∀ (b off n cap b2 off2 m cap2 : Nat) (P Q : Cs) (w : World), 3 ≤ n → n ≤ 8 → 3 ≤ m → m ≤ 8 → Pts w b off n P → Pts w b2 off2 m Q → Cin P n → Cin Q m →
    Calls Try.prog 23 #[.slice (some ⟨b, off, none⟩) n cap, .slice (some ⟨b2, off2, none⟩) m cap2] w fun e w' => e = .returned (.tuple #[.int .i64 (sideF P n Q m : Nat), .int .i64 (gapF P n Q m (sideF P n Q m))]) ∧ Made w.heap.size w w'

set_option maxRecDepth 100000 in
set_option maxHeartbeats 1000000 in
/-- the same touch is the same -/
theorem same_yes (nx ny : Int) (l : List Pnt) (ao bo : Option Addr) (c d : Nat) (w : World) (hl : l.length ≤ 8) (h : PtsT w ao l) (h2 : PtsT w bo l) :
    Calls Try.prog 13 #[tchV nx ny ao l.length c, tchV nx ny bo l.length d] w fun e w' => e = .returned (.bool true) ∧ Made w.heap.size w w' := by
  obtain ⟨n, en⟩ : ∃ n, l.length = n := ⟨_, rfl⟩
  have HA := hid h
  have HB := hid h2
  rw [en] at hl ⊢
  have EN := hid en
  clear h h2 en
  go_enter Try.func13, Try.ntmps13
  go_upto_region 3 with fail
  obtain ⟨W0, eW⟩ : ∃ W, W = (w.alloc (.cells #[.int .i64 nx, .int .i64 ny, .slice ao n c] 38)).alloc (.cells #[.int .i64 nx, .int .i64 ny, .slice bo n d] 38) := ⟨_, rfl⟩
  have a2 : W0.cell? ⟨w.heap.size, 2, none⟩ = some (.slice ao n c) := by rw [eW]; go_simp
  have b2 : W0.cell? ⟨w.heap.size + 1, 2, none⟩ = some (.slice bo n d) := by rw [eW]; go_simp
  have M0 : Hid (Made w.heap.size w W0) := by unfold Hid; rw [eW]; exact ((Made.rfl_ _ _).cells (Nat.le_refl _) _ _).cells (by simp) _ _
  rw [← eW]
  clear eW
  have HA0 := hid (HA.out.kept M0.out)
  have HB0 := hid (HB.out.kept M0.out)
  have A2 := hid a2
  have B2 := hid b2
  go_wp2_with fail
  go_loopg [23] n (fun gg j wr => ∃ m : Nat, m + gg = n ∧ j = .int .i64 m ∧ Hid (Made W0.heap.size W0 wr))
  case atStart => exact ⟨0, by omega, rfl, Made.rfl_ _ _⟩
  case round =>
    obtain ⟨m, hm, rfl, HM⟩ := hrel
    by_cases hlt : m < n
    · obtain ⟨p, hp⟩ : ∃ p, l[m]? = some p := ⟨_, List.getElem?_eq_getElem (by rw [EN.out]; exact hlt)⟩
      obtain ⟨px, py, pd, pk⟩ := p
      obtain ⟨ba, oa, ea, ha⟩ := HA0.out.kept HM.out (by rw [EN.out]; omega)
      obtain ⟨bb, ob, eb, hb⟩ := HB0.out.kept HM.out (by rw [EN.out]; omega)
      obtain ⟨x0, x1, x2, x3⟩ := ha m _ hp
      obtain ⟨y0, y1, y2, y3⟩ := hb m _ hp
      have a2 := HM.out.reads A2.out
      have b2 := HM.out.reads B2.out
      subst ea
      subst eb
      clear ha hb hp
      go_upto_region 6 with fail
      refine reg_made (by kernel_rfl) (by kernel_rfl) ?_
      intro T hT f hf
      have a2' := Class.reads hf a2
      have b2' := Class.reads hf b2
      have x0' := Class.reads hf x0
      have x1' := Class.reads hf x1
      have x2' := Class.reads hf x2
      have x3' := Class.reads hf x3
      have y0' := Class.reads hf y0
      have y1' := Class.reads hf y1
      have y2' := Class.reads hf y2
      have y3' := Class.reads hf y3
      repeat (go_big_quiet_step (fail))
      refine wpQuiet_nil ?_
      intro w3 h3
      have M3 : Hid (Made W0.heap.size W0 w3) := HM.out.then_ ((hf.here h3).low HM.out.1.size)
      clear h3 hf a2 b2 a2' b2' x0 x1 x2 x3 y0 y1 y2 y3 x0' x1' x2' x3' y0' y1' y2' y3'
      go_wp2_with fail
      go_roundg (n - m - 1)
      case rel =>
        refine ⟨m + 1, ?_, ?_, M3⟩
        · rw [Nat.sub_sub]; exact Nat.add_sub_cancel' hlt
        · go_num
      case measure =>
        have h0 : gk ≠ 0 := fun h0 => by rw [h0, Nat.add_zero] at hm; exact Nat.lt_irrefl _ (hm ▸ hlt)
        rw [Nat.sub_sub, ← hm, Nat.add_sub_add_left]
        exact Nat.sub_lt (Nat.pos_of_ne_zero h0) (Nat.lt_succ_self 0)
    · go_wp2_with fail
      go_ret
      exact ⟨rfl, M0.out.then_ (HM.out.low M0.out.1.size)⟩
end Go.Proofs.Ytckgpkbdckpcmaa.Fx
