/- Layer 17: the anchor of every Disk statement. -/
import Derived.Test.YtdaelblapgcljaaDkY
namespace Go.Proofs.Ytdaelblapgcljaa.Fx
open Go.ChangeShapes Go.WideShapes Go.ChangeAt Go.RowKit Go.Maps Go.Sort
set_option linter.unusedVariables false

def sA : ByteArray := ⟨#[97]⟩
def sB : ByteArray := ⟨#[98]⟩
noncomputable def fit3 : Dsk := (dirSyncL (syncD (appendD (createD (newD 100) sA).1 sA [120, 121]).1 sA).1).1
noncomputable def fitD : Dsk := crashL (createD (appendD fit3 sA [122]).1 sB).1 0 []
theorem fit_eval : (opD fitD).2 = 0 ∧ (readD (opD fitD).1 sA).2 = (0, [120, 121]) ∧ fitD.names.length = 1 := by decide +kernel
theorem xy_str : strB (gb [120, 121]) 2 = ⟨#[120, 121]⟩ := by decide +kernel
/-- a constant row of bytes -/
theorem by_const {w : World} {cs : Array Value} {l : List Nat} (h : ∀ i, i < l.length → cs[i]? = some (.int .u8 (gb l i : Nat))) (fz : Nat × Nat) : By (w.alloc (.cells cs 5 fz)) (some ⟨w.heap.size, 0, none⟩) l.length (gb l) := By.new _ _ _ _ _ h
set_option maxRecDepth 100000 in
set_option maxHeartbeats 8000000 in
theorem dfit_c {w : World} : Calls Try.prog 8 #[] w fun e w' => e = .returned (.bool true) ∧ Below w.heap.size w w' := by
  go_enter Try.func8, Try.ntmps8
  go_wp2_with fail
  refine (oNew (room := 100) (by omega) (by omega) (Below.refl _ w) (Nat.le_refl _)).mono ?_
  rintro e w1 ⟨p, rfl, h1, _, _⟩
  have h1 := hid h1
  go_wp2_with fail
  refine (oCreate h1.out (s := sA) (by omega) (by decide)).mono ?_
  rintro e w2 ⟨rfl, h2, _⟩
  have h2 := hid h2
  clear h1
  have q1 := Go.Joins.run_convert_bytes_const_at (P := Try.prog) w2 29 5 #[.int .u8 120, .int .u8 121] 2 2 w2.heap.size rfl Try.underlying29 Try.underlying5
  obtain ⟨W3, eW3⟩ : ∃ W3, W3 = w2.alloc (.cells #[.int .u8 120, .int .u8 121] 5 (2, 3)) := ⟨_, rfl⟩
  have hb3 : Below w2.heap.size w2 W3 := by rw [eW3]; exact below_new _ _
  have h3 := hid (h2.out.fresh hb3 (g := w2.heap.size) (Nat.le_refl _) (by rw [eW3]; simp))
  have y3 : Hid (By W3 (some ⟨w2.heap.size, 0, none⟩) 2 (gb [120, 121])) := by
    unfold Hid; rw [eW3]
    exact by_const (l := [120, 121]) (fun i hi => by
      match i, hi with
      | 0, _ => rfl
      | 1, _ => rfl) _
  have EW3 := hid eW3
  clear hb3 eW3 h2
  go_wp2_with fail
  rw [← EW3.out]
  refine (oAppend h3.out (s := sA) (by decide) (b := [120, 121]) (cb := 2) (by decide) y3.out (fun _ x off e => by cases e; exact .inl (by simp)) (by decide)).mono ?_
  rintro e w4 ⟨rfl, h4, _⟩
  have h4 := hid h4
  clear h3 y3 EW3 q1
  go_wp2_with fail
  refine (oSync h4.out (s := sA) (by decide) (by decide)).mono ?_
  rintro e w5 ⟨rfl, h5, _⟩
  have h5 := hid h5
  clear h4
  go_wp2_with fail
  refine (oDirSync h5.out (by decide)).mono ?_
  rintro e w6 ⟨rfl, h6, _⟩
  have h6 : Hid (On w.heap.size w w6 p fit3 6 [w2.heap.size]) := h6
  obtain ⟨g2, eg2⟩ : ∃ g, w2.heap.size = g := ⟨_, rfl⟩
  rw [eg2] at h6
  clear h5
  have q1 := Go.Joins.run_convert_bytes_const_at (P := Try.prog) w6 29 5 #[.int .u8 122] 1 1 w6.heap.size rfl Try.underlying29 Try.underlying5
  obtain ⟨W7, eW7⟩ : ∃ W7, W7 = w6.alloc (.cells #[.int .u8 122] 5 (1, 2)) := ⟨_, rfl⟩
  have hb7 : Below w6.heap.size w6 W7 := by rw [eW7]; exact below_new _ _
  have h7 := hid (h6.out.fresh hb7 (g := w6.heap.size) (Nat.le_refl _) (by rw [eW7]; simp))
  have y7 : Hid (By W7 (some ⟨w6.heap.size, 0, none⟩) 1 (gb [122])) := by
    unfold Hid; rw [eW7]
    exact by_const (l := [122]) (fun i hi => by
      match i, hi with
      | 0, _ => rfl) _
  have EW7 := hid eW7
  clear hb7 eW7 h6 eg2
  go_wp2_with fail
  rw [← EW7.out]
  refine (oAppend h7.out (s := sA) (by decide) (b := [122]) (cb := 1) (by decide) y7.out (fun _ x off e => by cases e; exact .inl (by simp)) (by decide)).mono ?_
  rintro e w8 ⟨rfl, h8, _⟩
  have h8 := hid h8
  clear h7 y7 EW7 q1
  go_wp2_with fail
  refine (oCreate h8.out (s := sB) (by decide) (by decide)).mono ?_
  rintro e w9 ⟨rfl, h9, _⟩
  have h9 := hid h9
  clear h8
  go_wp2_with fail
  refine (oCrash h9.out (by decide) (x := 0) (by omega) (kl := []) (ak := none) (ck := 0) (inK_nil _ _) (fun h => absurd h (by simp)) (Nat.zero_le _) (by omega) (fun x hx => by cases hx)).mono ?_
  rintro e w10 ⟨rfl, h10, _⟩
  obtain ⟨Y, eY⟩ : ∃ Y, [w6.heap.size, g2] = Y := ⟨_, rfl⟩
  rw [eY] at h10
  have h10 : Hid (On w.heap.size w w10 p fitD 9 Y) := h10
  clear h9 eY
  go_wp2_with fail
  refine (oList h10.out (by decide)).mono ?_
  rintro e w11 ⟨v, rfl, h11, _, _, hl, _⟩
  have hl := hl fit_eval.1
  rw [fit_eval.2.2] at hl
  obtain ⟨la, lc, rfl⟩ : ∃ la lc, v = .slice la 1 lc := by
    rcases hl.2 with ⟨_, h0⟩ | ⟨g, cap, cur, e, _⟩
    · omega
    · exact ⟨_, _, e⟩
  have h11 := hid h11
  rw [fit_eval.1]
  clear h10 hl
  go_wp2_with fail
  refine (oRead h11.out (by decide) (s := sA) (by decide)).mono ?_
  rintro e w12 ⟨v, rfl, hO, h12, _, _⟩
  rw [fit_eval.2.1] at hO
  rw [show (readD (opD fitD).1 sA).2.1 = 0 from congrArg Prod.fst fit_eval.2.1]
  have hO : OB w12 w.heap.size v 2 (gb [120, 121]) := hO
  obtain ⟨ao, c, rfl, _⟩ := hO.shape
  have q3 := conv_by (c := c) hO.by_
  rw [xy_str] at q3
  have h12 := hid h12
  clear h11 hO
  go_wp2_with fail
  go_ret
  exact ⟨rfl, h12.out.below⟩
end Go.Proofs.Ytdaelblapgcljaa.Fx
