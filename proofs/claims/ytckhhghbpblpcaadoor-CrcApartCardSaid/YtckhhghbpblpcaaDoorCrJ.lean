/- The walk of CrcApart. -/
import Derived.Test.YtckhhghbpblpcaaDoorCrE
import Derived.Test.YtckhhghbpblpcaaDoorCrF
import Derived.Test.YtckhhghbpblpcaaDoorCrO
namespace Go.Proofs.YtckhhghbpblpcaaDoor.Fx
open Go.ChangeShapes Go.WideShapes Go.ChangeAt Go.RowKit
set_option linter.unusedVariables false

theorem and16 (x : Int) : bits .and .i64 x 65535 = x % 65536 := and_low x 16 (by omega)
theorem xor8' {a b : Nat} (ha : a < 256) (hb : b < 256) : bits .xor .u8 (a : Int) (b : Int) = ((a ^^^ b : Nat) : Int) := u8_xor_nat a b ha hb
def fourF (a b c d : Nat) (i : Nat) : Nat := if i = 0 then a else if i = 1 then b else if i = 2 then c else if i = 3 then d else 0
theorem four_lt {a b c d : Nat} (ha : a < 256) (hb : b < 256) (hc : c < 256) (hd : d < 256) (i : Nat) : fourF a b c d i < 256 := by unfold fourF; split; exact ha; split; exact hb; split; exact hc; split; exact hd; omega
theorem ret_b {a b : Bool} (h : a = b) : Ending.returned (.bool a) = .returned (.bool b) := by rw [h]
theorem four_0 (p0 p1 p2 p3 : Nat) (w : World) : (Instr.index 34 (.agg #[.int .u8 (p0 : Nat), .int .u8 (p1 : Nat), .int .u8 (p2 : Nat), .int .u8 (p3 : Nat)]) (.int .i64 0)).run Tryd.prog w = .ok (.int .u8 (p0 : Nat)) w := by kernel_rfl
theorem four_1 (p0 p1 p2 p3 : Nat) (w : World) : (Instr.index 34 (.agg #[.int .u8 (p0 : Nat), .int .u8 (p1 : Nat), .int .u8 (p2 : Nat), .int .u8 (p3 : Nat)]) (.int .i64 1)).run Tryd.prog w = .ok (.int .u8 (p1 : Nat)) w := by kernel_rfl
theorem four_2 (p0 p1 p2 p3 : Nat) (w : World) : (Instr.index 34 (.agg #[.int .u8 (p0 : Nat), .int .u8 (p1 : Nat), .int .u8 (p2 : Nat), .int .u8 (p3 : Nat)]) (.int .i64 2)).run Tryd.prog w = .ok (.int .u8 (p2 : Nat)) w := by kernel_rfl
theorem four_3 (p0 p1 p2 p3 : Nat) (w : World) : (Instr.index 34 (.agg #[.int .u8 (p0 : Nat), .int .u8 (p1 : Nat), .int .u8 (p2 : Nat), .int .u8 (p3 : Nat)]) (.int .i64 3)).run Tryd.prog w = .ok (.int .u8 (p3 : Nat)) w := by kernel_rfl
theorem four_at {p0 p1 p2 p3 m : Nat} (hm : m < 4) (w : World) : (Instr.index 34 (.agg #[.int .u8 (p0 : Nat), .int .u8 (p1 : Nat), .int .u8 (p2 : Nat), .int .u8 (p3 : Nat)]) (.int .i64 (m : Nat))).run Tryd.prog w = .ok (.int .u8 (fourF p0 p1 p2 p3 m : Nat)) w := by
  match m, hm with
  | 0, _ => exact four_0 p0 p1 p2 p3 w
  | 1, _ => exact four_1 p0 p1 p2 p3 w
  | 2, _ => exact four_2 p0 p1 p2 p3 w
  | 3, _ => exact four_3 p0 p1 p2 p3 w
theorem Has.bel {w v : World} {g : Nat} {t : TypeId} {cs : Array Value} (h : Has w g t cs) (k : Below w.heap.size w v) : Has v g t cs := (k.block g h.here).trans h
set_option maxRecDepth 100000 in
set_option maxHeartbeats 4000000 in
theorem crcapart_walk {n c p0 p1 p2 p3 : Nat} {ao : Option Addr} {f : Nat → Nat} {at_ : Int} {w : World} (hT : Tab w) (hA : ByIn w ao n c f) (h0 : p0 < 256) (h1 : p1 < 256) (h2 : p2 < 256) (h3 : p3 < 256) :
    Calls Tryd.prog 6 #[.slice ao n c, .int .i64 at_, .agg #[.int .u8 (p0 : Nat), .int .u8 (p1 : Nat), .int .u8 (p2 : Nat), .int .u8 (p3 : Nat)]] w fun e w' => e = .returned (.bool true) ∧ Below w.heap.size w w' := by
  obtain ⟨hA, hf, hna, hca⟩ := hA
  have HA := hid hA; have HT := hid hT; have HF := hid hf
  have HX : Hid (∀ i, fourF p0 p1 p2 p3 i < 256) := four_lt h0 h1 h2 h3
  clear hA hT hf hna
  go_enter Tryd.func6, Tryd.ntmps6
  go_wp2_with fail
  obtain ⟨W0, eW⟩ : ∃ W, W = w.alloc (.cells #[.int .u8 (p0 : Nat), .int .u8 (p1 : Nat), .int .u8 (p2 : Nat), .int .u8 (p3 : Nat)] 34) := ⟨_, rfl⟩
  have P0 : Hid (Has W0 w.heap.size 34 #[.int .u8 (p0 : Nat), .int .u8 (p1 : Nat), .int .u8 (p2 : Nat), .int .u8 (p3 : Nat)]) := by unfold Hid; rw [eW]; exact has_new _ _ _
  have B0 : Hid (Below w.heap.size w W0) := by unfold Hid; rw [eW]; exact below_new _ _
  obtain ⟨PB, ePB⟩ : ∃ PB, w.heap.size = PB := ⟨_, rfl⟩
  have EPB := hid ePB
  rw [ePB] at P0
  rw [← eW, ePB]
  clear eW ePB
  refine (cfit_c (HT.out.bel B0.out)).mono ?_
  rintro e w1 ⟨rfl, hw1⟩
  have HA1 := hid ((HA.out.bel B0.out).bel hw1)
  have HT1 := hid ((HT.out.bel B0.out).bel hw1)
  have P1 := hid (P0.out.bel hw1)
  have HW1 : Hid (Below w.heap.size w w1) := B0.out.trans (hw1.mono B0.out.size)
  clear hw1 HA HT P0 B0
  by_cases hlen : n > 1000
  · go_wp2_with fail
    go_ret
    exact ⟨rfl, HW1.out⟩
  by_cases hz : n = 0
  · subst hz
    go_wp2_with fail
    go_ret
    exact ⟨rfl, HW1.out⟩
  obtain ⟨v2, w2, hr2, hO2, hM2⟩ := append_copy (c := c) 22 HA1.out (by omega)
  obtain ⟨o2, c2, rfl, hc2, _, hsh⟩ := hO2.shape
  obtain ⟨g, rfl, hg, _⟩ := hsh (by omega)
  have HR2 := hid hr2; have HO2 := hid hO2; have HM2 := hid hM2; have HG := hid hg
  have e16 := and16 at_
  obtain ⟨A, eA⟩ : ∃ A : Nat, at_ % 65536 = (A : Int) := ⟨(at_ % 65536).toNat, by omega⟩
  rw [eA] at e16
  obtain ⟨k, ek⟩ : ∃ k, A % n = k := ⟨_, rfl⟩
  have lk : k < n := by rw [← ek]; exact Nat.mod_lt _ (by omega)
  have ek2 : (A : Int) % (n : Int) = (k : Int) := by rw [← ek]; omega
  have ek3 : (A : Int).tmod (n : Int) = (k : Int) := by rw [Int.tmod_eq_emod_of_nonneg (by omega)]; exact ek2
  have hn0 : (n : Int) ≠ 0 := by omega
  have hnb : ((n : Int) == 0) = false := by simp; omega
  have P2 := hid (P1.out.stays hM2 P1.out.here)
  have c0 := P2.out.at_ 0
  have c1 := P2.out.at_ 1
  have c2' := P2.out.at_ 2
  have c3 := P2.out.at_ 3
  simp at c0 c1 c2' c3
  clear hr2 hO2 hM2 hg hsh hc2 eA ek P1
  go_wp2_with (at_builtin; refine Lib.wpList_append_run _ rfl _ _ _ _ rfl _ _ rfl rfl _ _ HR2.out ?_)
  clear HR2 c0 c1 c2' c3
  go_loopg [29] 4 (fun gg i wx => ∃ m : Nat, m + gg = 4 ∧ i = .int .i64 (m : Nat) ∧ Hid (OB wx w1.heap.size (.slice (some ⟨g, 0, none⟩) n c2) n (apartB f k (fourF p0 p1 p2 p3) m)) ∧ Hid (Made w1.heap.size w1 wx))
  case atStart => exact ⟨0, by omega, by first | rfl | trivial, HO2.out.congr fun i _ => by unfold apartB; rw [if_neg (by omega)], HM2.out⟩
  case round =>
    obtain ⟨m, hm, rfl, HO, HM⟩ := hrel
    by_cases hlt : m < 4
    · have q1 := four_at (p0 := p0) (p1 := p1) (p2 := p2) (p3 := p3) hlt wr
      obtain ⟨y, ey⟩ : ∃ y, fourF p0 p1 p2 p3 m = y := ⟨_, rfl⟩
      have ly : y < 256 := by rw [← ey]; exact HX.out m
      rw [ey] at q1
      by_cases hkm : k + m < n
      · obtain ⟨_, _, e0, hc⟩ := HO.out.by_ (by omega)
        cases e0
        obtain ⟨_, _, e0, _, _, h4⟩ := HO.out.shape
        cases e0
        obtain ⟨_, e1, _, hgs, hfz⟩ := h4 (by omega)
        cases e1
        have c0 := hc (k + m) hkm
        have z0 := hfz (k + m)
        rw [Nat.zero_add] at c0
        obtain ⟨x, ex⟩ : ∃ x, f (k + m) = x := ⟨_, rfl⟩
        have lx : x < 256 := by rw [← ex]; exact HF.out _
        have ex2 : apartB f k (fourF p0 p1 p2 p3) m (k + m) = x := by unfold apartB; rw [if_neg (by omega)]; exact ex
        rw [ex2] at c0
        have x1 := xor8' lx ly
        obtain ⟨z, ez⟩ : ∃ z, x ^^^ y = z := ⟨_, rfl⟩
        rw [ez] at x1
        have HN := hid ((HO.out.set (i := k + m) hkm z).congr (g := apartB f k (fourF p0 p1 p2 p3) (m + 1)) fun j hj => by
          unfold apartB
          by_cases e : j = k + m
          · subst e
            rw [if_pos rfl, if_pos (by omega), show k + m - k = m by omega, ey, ex, ez]
          · rw [if_neg e]
            by_cases h : k ≤ j ∧ j < k + m
            · rw [if_pos h, if_pos (by omega)]
            · rw [if_neg h, if_neg (by omega)])
        have HNM := hid (HM.out.put (p := ⟨g, k + m, none⟩) HG.out (.int .u8 (z : Nat)))
        clear hc hfz ex ex2 ey ez hgs h4
        go_wp2_with fail
        go_roundg (4 - m - 1)
        case rel => exact ⟨m + 1, by omega, by go_num, HN.out, HNM.out⟩
        case measure => omega
      · have HN := hid (HO.out.congr (g := apartB f k (fourF p0 p1 p2 p3) (m + 1)) fun j hj => by
          unfold apartB
          by_cases h : k ≤ j ∧ j < k + m
          · rw [if_pos h, if_pos (by omega)]
          · rw [if_neg h, if_neg (by omega)])
        clear ey
        go_wp2_with fail
        go_roundg (4 - m - 1)
        case rel => exact ⟨m + 1, by omega, by go_num, HN.out, HM.out⟩
        case measure => omega
    · have e : m = 4 := by omega
      subst e
      have HY := hid HO.out.by_
      have HA3 := hid (HA1.out.kept HM.out)
      have HT3 := hid (HT1.out.kept HM.out)
      have HE : Hid (sumB (apartB f k (fourF p0 p1 p2 p3) 4) n = sumB f n ↔ ∀ i, i < n → apartB f k (fourF p0 p1 p2 p3) 4 i = f i) := apart_sums HF.out HX.out n k (by omega)
      have HQ : Hid (strB f n = strB (apartB f k (fourF p0 p1 p2 p3) 4) n ↔ ∀ i, i < n → f i = apartB f k (fourF p0 p1 p2 p3) 4 i) := strB_ext HF.out (apartB_lt HF.out HX.out k 4) n
      have HL : Hid (∀ i, apartB f k (fourF p0 p1 p2 p3) 4 i < 256) := apartB_lt HF.out HX.out k 4
      obtain ⟨F, eF⟩ : ∃ F, apartB f k (fourF p0 p1 p2 p3) 4 = F := ⟨_, rfl⟩
      rw [eF] at HY HE HQ HL
      obtain ⟨S1, e1⟩ : ∃ S, sumB f n = S := ⟨_, rfl⟩
      obtain ⟨S2, e2⟩ : ∃ S, sumB F n = S := ⟨_, rfl⟩
      obtain ⟨X1, e3⟩ : ∃ S, strB f n = S := ⟨_, rfl⟩
      obtain ⟨X2, e4⟩ : ∃ S, strB F n = S := ⟨_, rfl⟩
      have HS : Hid (S1 = S2 ↔ X1 = X2) := by
        unfold Hid
        rw [← e1, ← e2, ← e3, ← e4]
        constructor
        · intro h; exact HQ.out.2 fun i hi => (HE.out.1 h.symm i hi).symm
        · intro h; exact (HE.out.2 fun i hi => (HQ.out.1 h i hi).symm).symm
      have E1 := hid e1; have E2 := hid e2; have E3 := hid e3; have E4 := hid e4
      clear HO HE HQ eF e1 e2 e3 e4 hlt hm
      go_wp2_with fail
      refine reg_made (by kernel_rfl) (by kernel_rfl) ?_
      intro T hTT fw hfw
      have H1 := hid (fun t => hfw.same (x := t) ((csum_c (c := c) HF.out (HT3.out.kept (hfw.1 t)) (HA3.out.kept (hfw.1 t)) (by omega)).mono fun e w' h => by rw [E1.out] at h; exact h))
      have H2 := hid (fun t => hfw.same (x := t) ((csum_c (c := c2) HL.out (HT3.out.kept (hfw.1 t)) (HY.out.kept (hfw.1 t)) (by omega)).mono fun e w' h => by rw [E2.out] at h; exact h))
      have H3 : ∀ t, (convert 22 9 (.slice ao n c)).run Tryd.prog (fw t) = .ok (.string X1) (fw t) := fun t => by rw [← E3.out]; exact conv_by (HA3.out.kept (hfw.1 t))
      have H4 : ∀ t, (convert 22 9 (.slice (some ⟨g, 0, none⟩) n c2)).run Tryd.prog (fw t) = .ok (.string X2) (fw t) := fun t => by rw [← E4.out]; exact conv_by (HY.out.kept (hfw.1 t))
      repeat (go_big_quiet_step ((first
        | (go_at_call 8; with_reducible exact H1.out _)
        | (go_at_call 8; with_reducible exact H2.out _))))
      refine wpQuiet_nil ?_
      intro w3 h3
      have k3 := hfw.here h3
      have HK := hid (HM.out.then_ (k3.low HM.out.1.size))
      have hq : (((S1 : Int) == (S2 : Int)) == (X1.toList == X2.toList)) = true := by
        by_cases h : S1 = S2
        · rw [str_yes (HS.out.1 h), h]; simp
        · rw [str_no (fun e => h (HS.out.2 e))]
          simp
          omega
      have HQ := hid hq
      clear hq h3 k3 hfw H1 H2 H3 H4
      go_wp2_with fail
      go_ret
      exact ⟨ret_b HQ.out, HW1.out.trans (HK.out.1.mono HW1.out.size)⟩
theorem crcapart_i {n c : Nat} {ao : Option Addr} {f : Nat → Nat} {at_ x0 x1 x2 x3 : Int} {w : World} (hT : Tab w) (hA : ByIn w ao n c f) (h0 : (Lit.int .u8 x0).wf = true) (h1 : (Lit.int .u8 x1).wf = true) (h2 : (Lit.int .u8 x2).wf = true) (h3 : (Lit.int .u8 x3).wf = true) :
    Calls Tryd.prog 6 #[.slice ao n c, .int .i64 at_, .agg #[.int .u8 x0, .int .u8 x1, .int .u8 x2, .int .u8 x3]] w fun e w' => e = .returned (.bool true) ∧ Below w.heap.size w w' := by
  have b0 := bounds_u8 h0
  have b1 := bounds_u8 h1
  have b2 := bounds_u8 h2
  have b3 := bounds_u8 h3
  have h := crcapart_walk (p0 := x0.toNat) (p1 := x1.toNat) (p2 := x2.toNat) (p3 := x3.toNat) (at_ := at_) hT hA (by omega) (by omega) (by omega) (by omega)
  rwa [show ((x0.toNat : Nat) : Int) = x0 by omega, show ((x1.toNat : Nat) : Int) = x1 by omega, show ((x2.toNat : Nat) : Int) = x2 by omega, show ((x3.toNat : Nat) : Int) = x3 by omega] at h
end Go.Proofs.YtckhhghbpblpcaaDoor.Fx
