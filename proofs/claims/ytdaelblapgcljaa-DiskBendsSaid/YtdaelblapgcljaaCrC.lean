/- Contracts of package crc: Sum, stored, copied, invert, Bend. -/
import Derived.Test.YtdaelblapgcljaaCrB
namespace Go.Proofs.Ytdaelblapgcljaa.Fx
open Go.ChangeShapes Go.WideShapes Go.ChangeAt Go.RowKit
set_option linter.unusedVariables false

theorem or32 {a b : Nat} (ha : a < 4294967296) (hb : b < 4294967296) : bits .or .u32 (a : Int) (b : Int) = ((a ||| b : Nat) : Int) := u32_or_nat a b ha hb
set_option maxRecDepth 100000 in
set_option maxHeartbeats 2000000 in
theorem ccopied_c {n c : Nat} {ao : Option Addr} {f : Nat → Nat} {w : World} (hB : By w ao n f) (hn : n ≤ 1099511627776) :
    Calls Try.prog 48 #[.slice ao n c] w fun e w' => ∃ v, e = .returned v ∧ OB w' w.heap.size v n f ∧ Made w.heap.size w w' := by
  obtain ⟨v', w', hr, hO, hM⟩ := append_copy (c := c) 29 hB hn
  have HR := hid hr; have HO := hid hO; have HM := hid hM
  clear hr hO hM hB
  go_enter Try.func48, Try.ntmps48
  go_wp2_with (at_builtin; refine Lib.wpList_append_run _ rfl _ _ _ _ rfl _ _ rfl rfl _ _ HR.out ?_)
  go_ret
  exact ⟨_, rfl, HO.out, HM.out⟩
theorem xor8 {a b : Nat} (ha : a < 256) (hb : b < 256) : bits .xor .u8 (a : Int) (b : Int) = ((a ^^^ b : Nat) : Int) := u8_xor_nat a b ha hb
def invF (f : Nat → Nat) (bit : Int) (j : Nat) : Nat := if (8 * j : Int) ≤ bit ∧ bit < 8 * j + 8 then f j ^^^ 2 ^ (bit - 8 * j).toNat else f j
theorem cvoid_end {P : Program} {fn : Func} {R : Ending → World → Prop} {a : Act} {w : World} (h : fn.results = #[]) (hd : a.defers = []) (hR : R (.returned (.tuple #[])) w) : bodyPost P fn R .normal a w := bodyPost_end (results_none h _ _ _) hd hR
theorem cvoid_ret {P : Program} {fn : Func} {R : Ending → World → Prop} {a : Act} {w : World} (h : fn.results = #[]) (hd : a.defers = []) (hR : R (.returned (.tuple #[])) w) : bodyPost P fn R .ret a w := bodyPost_ret (results_none h _ _ _) hd hR
set_option maxRecDepth 100000 in
set_option maxHeartbeats 2000000 in
theorem cinvert_c {n c base : Nat} {ao : Option Addr} {f : Nat → Nat} {bit : Int} {w : World} (hf : ∀ i, f i < 256) (hO : OB w base (.slice ao n c) n f) (hn : n ≤ 1099511627776) (h1 : -4611686018427387904 ≤ bit) (h2 : bit ≤ 4611686018427387904) :
    Calls Try.prog 49 #[.slice ao n c, .int .i64 bit] w fun e w' => e = .returned (.tuple #[]) ∧ OB w' base (.slice ao n c) n (invF f bit) ∧ Made base w w' := by
  have HO := hid hO
  by_cases hb : 0 ≤ bit
  · obtain ⟨q, rfl⟩ : ∃ q : Nat, bit = (q : Int) := ⟨bit.toNat, by omega⟩
    obtain ⟨j, ej⟩ : ∃ j, q / 8 = j := ⟨_, rfl⟩
    obtain ⟨t, et⟩ : ∃ t, q % 8 = t := ⟨_, rfl⟩
    have dq : (q : Int).tdiv 8 = (j : Int) := by rw [Int.tdiv_eq_ediv_of_nonneg (by omega)]; omega
    have dr : (q : Int).tmod 8 = (t : Int) := by rw [Int.tmod_eq_emod_of_nonneg (by omega)]; omega
    have dq2 : (q : Int) / 8 = (j : Int) := by omega
    have dr2 : (q : Int) % 8 = (t : Int) := by omega
    by_cases hj : j < n
    · obtain ⟨b, off, rfl, hc⟩ := hO.by_ (by omega)
      obtain ⟨_, _, e0, _, _, h3⟩ := hO.shape
      obtain ⟨g, e1, hg, hgs, hfz⟩ := h3 (by omega)
      cases e0
      cases e1
      have c0 := hc j hj
      rw [Nat.zero_add] at c0
      obtain ⟨x, ex⟩ : ∃ x, f j = x := ⟨_, rfl⟩
      have lx : x < 256 := by rw [← ex]; exact hf j
      rw [ex] at c0
      have lt : t < 8 := by omega
      obtain ⟨y, ey⟩ : ∃ y, 2 ^ t = y := ⟨_, rfl⟩
      have ly : y < 256 := by rw [← ey]; exact Nat.pow_lt_pow_right (n := 8) (by omega) lt
      have s1 : (2 : Int) ^ t % 256 = (y : Int) := by
        have : (2 : Int) ^ t = ((2 ^ t : Nat) : Int) := by rw [Int.natCast_pow]; rfl
        rw [this, ey]; omega
      have s2 : (1 : Int) * 2 ^ t % 256 = (y : Int) := by rw [Int.one_mul]; exact s1
      have x1 := xor8 lx ly
      obtain ⟨z, ez⟩ : ∃ z, x ^^^ y = z := ⟨_, rfl⟩
      rw [ez] at x1
      have HI : Hid (∀ i, i < n → (if i = j then z else f i) = invF f q i) := fun i hi => by
        unfold invF
        by_cases e : i = j
        · subst e
          rw [if_pos rfl, if_pos (by omega), ex, show ((q : Int) - 8 * i).toNat = t by omega, ey, ez]
        · rw [if_neg e, if_neg (by omega)]
      have HG : Hid (base ≤ b) := hg
      clear hc hO ex ey ez hf
      go_enter Try.func49, Try.ntmps49
      go_upto_region 1 with fail
      refine reg_made_tail 10 (by kernel_rfl) (by kernel_rfl) ?_
      intro T hT fw hfw
      have b0 := Class.reads hfw c0
      simp only [List.take_succ_cons, List.take_zero, List.drop_succ_cons, List.drop_zero]
      repeat (go_big_quiet_step (fail))
      refine wpQuiet_nil ?_
      intro w3 h3
      have k3 := hfw.here h3
      have c3 := k3.reads c0
      have z3 := (k3.2 _).trans (hfz j)
      have HK := hid k3
      clear h3 k3 hfw b0
      go_wp2_with fail
      refine cvoid_end rfl rfl ⟨rfl, ?_, ?_⟩
      · have h4 := OB.kept (HO.out) HK.out
        have h5 := (OB.set (i := j) h4 hj z).congr (g := invF f q) HI.out
        exact h5
      · exact ((HK.out).low (Nat.le_trans HG.out (Nat.le_of_lt hgs))).put HG.out _
    · have HF : Hid (OB w base (.slice ao n c) n (invF f q)) := hO.congr fun i hi => by
        unfold invF; rw [if_neg (by omega)]
      clear hO hf
      go_enter Try.func49, Try.ntmps49
      go_wp2_with fail
      first
        | exact cvoid_end rfl rfl ⟨rfl, HF.out, Made.rfl_ _ _⟩
        | exact cvoid_ret rfl rfl ⟨rfl, HF.out, Made.rfl_ _ _⟩
  · have HF : Hid (OB w base (.slice ao n c) n (invF f bit)) := hO.congr fun i hi => by
      unfold invF; rw [if_neg (by omega)]
    clear hO hf
    go_enter Try.func49, Try.ntmps49
    go_wp2_with fail
    first
      | exact cvoid_end rfl rfl ⟨rfl, HF.out, Made.rfl_ _ _⟩
      | exact cvoid_ret rfl rfl ⟨rfl, HF.out, Made.rfl_ _ _⟩
end Go.Proofs.Ytdaelblapgcljaa.Fx
