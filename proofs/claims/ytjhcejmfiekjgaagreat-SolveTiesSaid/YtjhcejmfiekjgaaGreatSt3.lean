/- TurnA TurnP TurnB Vecs -/
import Derived.Test.YtjhcejmfiekjgaaGreatSt0
import Derived.Test.YtjhcejmfiekjgaaGreatSt1
import Derived.Test.YtjhcejmfiekjgaaGreatSt2
import Derived.Great.BuildSlice
import Derived.Great.Walk
import Derived.Deep.DeepCutAuto
set_option maxRecDepth 100000
set_option maxHeartbeats 64000000
/- Contracts of the table of sines. -/
namespace Go.Proofs.YtjhcejmfiekjgaaGreat.Fx
open Go.ChangeShapes Go.WideShapes Go.ChangeAt Go.RowKit
set_option linter.unusedVariables false
def tabV : Array Value := (tabL.map (Value.int .i64)).toArray
def zeroV : Array Value := (List.replicate 257 (Value.int .i64 0)).toArray
theorem tabV_at (k : Nat) (h : k < 257) : tabV[k]? = some (.int .i64 (tabF k)) := by
 unfold tabV
 rw [tabF_in (by omega) (by omega)]
 have hl := tabL_len
 rw [List.getElem?_toArray, List.getElem?_map, List.getD_eq_getElem?_getD, Int.toNat_natCast, List.getElem?_eq_getElem (by omega)]
 rfl
def rowSet (cs : Array Value) : Obj → Obj
 | .cells _ t f => .cells cs t f
 | o => o
theorem new_block (w : World) (o : Obj) : (w.alloc o).heap[w.heap.size]? = some o := by
 show (w.heap.push _)[w.heap.size]? = _
 simp
def Tabbed (w wx : World) : Prop := Made w.heap.size w wx ∧ ∀ k : Nat, k < 257 → wx.cell? ⟨w.heap.size, k, none⟩ = some (.int .i64 (tabF k))
theorem Tabbed.mk (w : World) (t : TypeId) : Tabbed w ((w.alloc (.cells zeroV t)).setRow w.heap.size tabV) := by
 have hg : (w.alloc (.cells zeroV t)).heap[w.heap.size]? = some (.cells zeroV t (0, 0)) := by
  show (w.heap.push _)[w.heap.size]? = _
  simp
 refine ⟨?_, fun k hk => ?_⟩
 ·exact ⟨⟨rfl, rfl, rfl, by simp, fun k hk => (setRow_other _ _ _ _ (by omega)).trans (Below.heap_alloc _ _ _ hk)⟩, fun a => (frozen_setRow _ _ _ a).trans (frozen?_alloc_cells _ _ _ a)⟩
 ·rw [cell_setRow_same _ _ _ _ _ _ _ hg]; exact tabV_at k hk
theorem apisine_c (n : Int) (w : World) (h : I64 n) :
  Calls Tryz.prog 105 #[.int .i64 n] w fun e w' => e = .returned (.int .i64 (tabF n)) ∧ Made w.heap.size w w' := by
 obtain ⟨h0, h1⟩ := h
 go_enter Tryz.func105, Tryz.ntmps105
 go_upto_region 1 with fail
 go_cut [3] (fun s wx => s = .pointer (some ⟨w.heap.size, 0, none⟩) ∧ Tabbed w wx)
 case first =>
  apply wp_region_lit
  refine wpList_buildFlatArrTo rfl 185 24 257 _ rfl .i64 tabL (some 4) rfl (by kernel_rfl) (by kernel_rfl) (by kernel_rfl) (by as_aux_lemma => kernel_rfl) ?_
  refine Go.Great.wpList_runTo rfl (some 3) rfl (.pointer (some ⟨w.heap.size, 0, none⟩)) (w.alloc (.cells zeroV 185)) (by as_aux_lemma => kernel_rfl) ?_
  refine wpList_store_rowTo rfl 185 _ _ rfl rfl w.heap.size tabV (by rfl) (by rfl) 185 zeroV (new_block _ _) (by as_aux_lemma => kernel_rfl) (by as_aux_lemma => kernel_rfl) (by as_aux_lemma => kernel_rfl) ?_
  go_wp2_with fail
  go_meet
  exact ⟨rfl, Tabbed.mk _ _⟩
 case rest =>
  obtain ⟨rfl, HB⟩ := hcut
  have HB' : Hid (Tabbed w wc) := HB
  obtain ⟨HB0, HB1⟩ := HB
  clear HB1
  have hB : Hid (Made w.heap.size w wc) := HB0
  clear HB0
  by_cases c0 : n < 0
  ·have e : Hid (tabF n = 0) := tabF_no (Or.inl c0)
   go_wp2
   go_ret
   exact ⟨ret_i e.out.symm, hB.out⟩
  ·by_cases c1 : 257 ≤ n
   ·have e : Hid (tabF n = 0) := tabF_no (Or.inr c1)
    go_wp2
    go_ret
    exact ⟨ret_i e.out.symm, hB.out⟩
   ·obtain ⟨k, rfl⟩ := Int.eq_ofNat_of_zero_le (Int.not_lt.1 c0)
    have hk : k < 257 := by omega
    have hcell := HB'.out.2 k hk
    go_wp2
    go_ret
    exact ⟨rfl, hB.out⟩
end Go.Proofs.YtjhcejmfiekjgaaGreat.Fx
/- Sines and cosines of steps, plain: what the statements of layer 2 need to know of the table. -/
namespace Go.Proofs.YtjhcejmfiekjgaaGreat.Fx
def sn (k : Int) : Int := if k ≤ 256 then tabF k else if k ≤ 512 then tabF (512 - k) else if k ≤ 768 then -tabF (k - 512) else -tabF (1024 - k)
def cs (k : Int) : Int := sn ((k + 256) % 1024)
def wrapF (a : Int) : Int := cl a % 4294967296
def stepF (a : Int) : Int := wrapF a / 4194304
theorem wrapF_bd (a : Int) : 0 ≤ wrapF a ∧ wrapF a < 4294967296 := by unfold wrapF; omega
theorem stepF_bd (a : Int) : 0 ≤ stepF a ∧ stepF a < 1024 := by have := wrapF_bd a; unfold stepF; omega
theorem all_in {p : Int → Bool} (n : Nat) (h : (List.range n).all (fun k => p k) = true) (k : Int) (h0 : 0 ≤ k) (h1 : k < n) : p k = true := by
 obtain ⟨m, rfl⟩ := Int.eq_ofNat_of_zero_le h0
 exact List.all_eq_true.1 h m (List.mem_range.2 (by omega))
def tabOk (k : Int) : Bool := decide (0 ≤ tabF k) && decide (tabF k ≤ 4294967296)
theorem tab_check : (List.range 257).all (fun k => tabOk k) = true := by decide +kernel
theorem tabF_bd (k : Int) : 0 ≤ tabF k ∧ tabF k ≤ 4294967296 := by
 by_cases h : k < 0 ∨ 257 ≤ k
 ·rw [tabF_no h]; omega
 ·have := all_in (p := tabOk) 257 tab_check k (by omega) (by omega)
  simpa [tabOk] using this
def gapOk (k : Int) : Bool := decide (tabF k + 4 ≤ tabF (k + 1))
theorem sn_bd (k : Int) : -4294967296 ≤ sn k ∧ sn k ≤ 4294967296 := by
 have h1 := tabF_bd k; have h2 := tabF_bd (512 - k); have h3 := tabF_bd (k - 512); have h4 := tabF_bd (1024 - k)
 unfold sn; (repeat' split) <;> omega
def turnOk (k : Int) : Bool := decide (sn ((k + 512) % 1024) = -sn k) && decide (sn ((1024 - k) % 1024) = -sn k) && decide (cs ((1024 - k) % 1024) = cs k) && decide (absF (addF (mulF (cs k) (cs k)) (mulF (sn k) (sn k)) - 4294967296) < 8)
def quartOk (k : Int) : Bool := decide (sn k < sn (k + 1)) && decide (cs (k + 1) < cs k) && decide (0 ≤ sn k) && decide (0 < cs k)
def tabledB (c s : Int) (n : Nat) : Bool := (List.range n).any fun k => decide (cs k = c) && decide (sn k = s)
end Go.Proofs.YtjhcejmfiekjgaaGreat.Fx
/- Contracts of package turn: angles, steps, sines. -/
namespace Go.Proofs.YtjhcejmfiekjgaaGreat.Fx
open Go.ChangeShapes Go.WideShapes Go.ChangeAt Go.RowKit
set_option linter.unusedVariables false
theorem and_low (x : Int) (i : Nat) (hi : i ≤ 62) : bits .and .i64 x (2 ^ i - 1) = x % 2 ^ i := by
 have hpos : 0 < 2 ^ i := Nat.two_pow_pos i
 have hdvd : (2 : Nat) ^ i ∣ 2 ^ 64 := Nat.pow_dvd_pow 2 (by omega)
 have hle : (2 : Nat) ^ i ≤ 2 ^ 62 := Nat.pow_le_pow_right (by decide) hi
 have e1 : (BitVec.ofInt 64 ((2 : Int) ^ i - 1)).toNat = 2 ^ i - 1 := by
  have c : ((2 : Int) ^ i - 1) = ((2 ^ i - 1 : Nat) : Int) := by rw [Int.natCast_sub hpos]; simp
  rw [c, BitVec.ofInt_natCast, BitVec.toNat_ofNat, Nat.mod_eq_of_lt (by omega)]
 have e2 : ((BitVec.ofInt 64 x).toNat : Int) = x % 18446744073709551616 := by
  rw [BitVec.toNat_ofInt]; omega
 have hd2 : (2 : Int) ^ i ∣ 18446744073709551616 := by
  have t := Int.natCast_dvd_natCast.2 hdvd
  have e64 : ((2 ^ 64 : Nat) : Int) = 18446744073709551616 := by decide
  rw [e64, Int.natCast_pow] at t
  exact t
 unfold bits
 show IntKind.i64.wrap ((BitVec.ofInt 64 x &&& BitVec.ofInt 64 (2 ^ i - 1)).toNat : Int) = _
 rw [BitVec.toNat_and, e1, Nat.and_two_pow_sub_one_eq_mod, IntKind.wrap_i64]
 have h : (((BitVec.ofInt 64 x).toNat % 2 ^ i : Nat) : Int) = x % 2 ^ i := by
  rw [Int.natCast_emod, e2]
  have hp : (((2 : Nat) ^ i : Nat) : Int) = (2 : Int) ^ i := by rw [Int.natCast_pow]; rfl
  rw [hp]
  exact Int.emod_emod_of_dvd x hd2
 rw [h]
 have b0 : 0 ≤ x % 2 ^ i := Int.emod_nonneg _ (by have : (0:Int) < 2 ^ i := Int.pow_pos (by omega); omega)
 have b1 : x % 2 ^ i < 2 ^ i := Int.emod_lt_of_pos _ (Int.pow_pos (by omega))
 have b2 : (2 : Int) ^ i ≤ 4611686018427387904 := by
  have t := Int.ofNat_le.2 hle
  have e62 : ((2 ^ 62 : Nat) : Int) = 4611686018427387904 := by decide
  rw [e62, Int.natCast_pow] at t
  exact t
 omega
theorem and32 (x : Int) : bits .and .i64 x 4294967295 = x % 4294967296 := and_low x 32 (by omega)
theorem and8 (x : Int) : bits .and .i64 x 255 = x % 256 := and_low x 8 (by omega)
theorem bring_all {a : Int} (h : I64 a) : bringF a (-9223372036854775807) 9223372036854775807 = cl a := by
 have := cl_bd h
 unfold L M at this
 unfold bringF
 rw [show cl (-9223372036854775807) = -9223372036854775807 from by decide, show cl 9223372036854775807 = 9223372036854775807 from by decide]
 rw [if_neg (by omega), if_neg (by omega)]
theorem wrap_c (a : Int) (w : World) (h : I64 a) :
  Calls Tryz.prog 67 #[.int .i64 a] w fun e w' => e = .returned (.int .i64 (wrapF a)) ∧ w = w' := by
 have E : Hid _ := bring_all h
 have E2 : Hid _ := and32 (cl a)
 go_enter Tryz.func67, Tryz.ntmps67
 go_wp2_with fail
 refine (bring_c a _ _ _ h (by unfold I64; omega) (by unfold I64; omega)).mono ?_
 rintro e w' ⟨rfl, rfl⟩
 rw [E.out]
 go_wp2_with fail
 go_ret
 exact ⟨ret_i (by rw [E2.out]; rfl), rfl⟩
theorem step_c (a : Int) (w : World) (h : I64 a) :
  Calls Tryz.prog 28 #[.int .i64 a] w fun e w' => e = .returned (.int .i64 (stepF a)) ∧ w = w' := by
 obtain ⟨b0, b1⟩ := wrapF_bd a
 go_enter Tryz.func28, Tryz.ntmps28
 go_wp2_with fail
 refine (wrap_c a _ h).mono ?_
 rintro e w' ⟨rfl, rfl⟩
 go_wp2_with fail
 go_ret
 exact ⟨ret_i (by unfold stepF; rfl), rfl⟩
theorem negF_tab (k : Int) : negF (tabF k) = -tabF k := by
 have := tabF_bd k; unfold negF cl; rw [if_neg (by omega)]
theorem tsine_lo (k : Int) (w : World) (h0 : 0 ≤ k) (h1 : k ≤ 512) :
  Calls Tryz.prog 66 #[.int .i64 k] w fun e w' => e = .returned (.int .i64 (sn k)) ∧ Made w.heap.size w w' := by
 by_cases c : k ≤ 256
 ·have E : Hid (sn k = tabF k) := by unfold Hid sn; rw [if_pos c]
  go_enter Tryz.func66, Tryz.ntmps66
  go_wp2_with fail
  refine (apisine_c k _ (by unfold I64; omega)).mono ?_
  rintro e w' ⟨rfl, hb⟩
  go_wp2_with fail
  go_ret
  exact ⟨ret_i E.out.symm, hb⟩
 ·have E : Hid (sn k = tabF (512 - k)) := by unfold Hid sn; rw [if_neg c, if_pos h1]
  go_enter Tryz.func66, Tryz.ntmps66
  go_wp2_with fail
  refine (apisine_c (512 - k) _ (by unfold I64; omega)).mono ?_
  rintro e w' ⟨rfl, hb⟩
  go_wp2_with fail
  go_ret
  exact ⟨ret_i E.out.symm, hb⟩
theorem sn_up (k : Int) (h : 512 < k) (h1 : k ≤ 1024) : negF (sn (k - 512)) = sn k := by
 unfold sn
 by_cases c : k ≤ 768
 ·rw [if_pos (by omega), if_neg (by omega), if_neg (by omega), if_pos c, negF_tab]
 ·rw [if_neg (by omega), if_pos (by omega), if_neg (by omega), if_neg (by omega), if_neg c, negF_tab]
  congr 2; omega
theorem I64_sn (k : Int) : I64 (sn k) := by have := sn_bd k; unfold I64; omega
theorem I64_cs (k : Int) : I64 (cs k) := I64_sn _
theorem tsine_c (k : Int) (w : World) (h0 : 0 ≤ k) (h1 : k < 1024) :
  Calls Tryz.prog 66 #[.int .i64 k] w fun e w' => e = .returned (.int .i64 (sn k)) ∧ Made w.heap.size w w' := by
 by_cases c : k ≤ 512
 ·exact tsine_lo k w h0 c
 ·have E : Hid (negF (sn (k - 512)) = sn k) := sn_up k (by omega) (by omega)
  go_enter Tryz.func66, Tryz.ntmps66
  go_wp2_with fail
  refine (tsine_lo (k - 512) _ (by omega) (by omega)).mono ?_
  rintro e w' ⟨rfl, hb⟩
  go_wp2_with fail
  refine (neg_c _ _ (I64_sn _)).mono ?_
  rintro e w' ⟨rfl, rfl⟩
  go_wp2_with fail
  go_ret
  exact ⟨ret_i E.out, hb⟩
theorem tcosine_c (k : Int) (w : World) (h0 : 0 ≤ k) (h1 : k < 1024) :
  Calls Tryz.prog 65 #[.int .i64 k] w fun e w' => e = .returned (.int .i64 (cs k)) ∧ Made w.heap.size w w' := by
 go_enter Tryz.func65, Tryz.ntmps65
 go_wp2_with fail
 refine (tsine_c ((k + 256) % 1024) _ (by omega) (by omega)).mono ?_
 rintro e w' ⟨rfl, hb⟩
 go_wp2_with fail
 go_ret
 exact ⟨rfl, hb⟩
abbrev rotV (c s : Int) : Value := .agg #[.int .i64 c, .int .i64 s]
theorem rotation_c (k : Int) (w : World) (h0 : 0 ≤ k) (h1 : k < 1024) :
  Calls Tryz.prog 27 #[.int .i64 k] w fun e w' => e = .returned (rotV (cs k) (sn k)) ∧ Made w.heap.size w w' := by
 go_enter Tryz.func27, Tryz.ntmps27
 go_wp2_with fail
 refine (tcosine_c k _ h0 h1).mono ?_
 rintro e w1 ⟨rfl, hb1⟩
 go_wp2_with fail
 refine (tsine_c k _ h0 h1).mono ?_
 rintro e w2 ⟨rfl, hb2⟩
 have H1 := (has_new w 46 #[.int .i64 0, .int .i64 0]).stays hb1 (by simp)
 have H2 := H1.stays hb2 H1.here
 have k0 := H2.at_ 0
 have k1 := H2.at_ 1
 have m0 := H2.free 0
 have m1 := H2.free 1
 have hw := hid (((Made.rfl_ w.heap.size w).cells (Nat.le_refl _) _ _).then_ ((hb1.low (by simp)).then_ (hb2.low (by have := H1.here; omega))))
 clear H1 H2 hb1 hb2
 simp at k0 k1
 go_wp2_with fail
 refine bodyPost_ret (v := rotV (cs k) (sn k)) (by simp [results, Tryz.results27, go_sem, k0, k1]) rfl ⟨rfl, ?_⟩
 exact (hw.out.put (Nat.le_refl _) _).put (Nat.le_refl _) _
theorem turnOf_c (a : Int) (w : World) (h : I64 a) :
  Calls Tryz.prog 8 #[.int .i64 a] w fun e w' => e = .returned (rotV (cs (stepF a)) (sn (stepF a))) ∧ Made w.heap.size w w' := by
 obtain ⟨b0, b1⟩ := stepF_bd a
 have HA : Hid (I64 a) := h
 clear h
 go_enter Tryz.func8, Tryz.ntmps8
 go_wp2_with fail
 refine (step_c a _ HA.out).mono ?_
 rintro e w' ⟨rfl, rfl⟩
 go_wp2_with fail
 refine (rotation_c _ _ b0 b1).mono ?_
 rintro e w1 ⟨rfl, hb1⟩
 have H1 := (has_new w 46 #[.int .i64 0, .int .i64 0]).stays hb1 (by simp)
 have k0 := H1.at_ 0
 have k1 := H1.at_ 1
 have m0 := H1.free 0
 have m1 := H1.free 1
 have hw := hid (((Made.rfl_ w.heap.size w).cells (Nat.le_refl _) _ _).then_ (hb1.low (by simp)))
 clear H1 hb1
 simp at k0 k1
 go_wp2_with fail
 refine bodyPost_ret (v := rotV (cs (stepF a)) (sn (stepF a))) (by simp [results, Tryz.results8, go_sem, k0, k1]) rfl ⟨rfl, ?_⟩
 exact (hw.out.put (Nat.le_refl _) _).put (Nat.le_refl _) _
theorem turnOf_is (a k : Int) (w : World) (h : I64 a) (e : stepF a = k) :
  Calls Tryz.prog 8 #[.int .i64 a] w fun e w' => e = .returned (rotV (cs k) (sn k)) ∧ Made w.heap.size w w' := by subst e; exact turnOf_c a w h
theorem I64_wf {n : Int} (h : (Lit.int .i64 n).wf = true) : I64 n := bounds_i64 h
theorem cl_id {a : Int} (h : -9223372036854775807 ≤ a) : cl a = a := by unfold cl; rw [if_neg (by omega)]
end Go.Proofs.YtjhcejmfiekjgaaGreat.Fx
/- Contracts of package vec. -/
/- Contracts of package vec. -/
namespace Go.Proofs.YtjhcejmfiekjgaaGreat.Fx
open Go.ChangeShapes Go.WideShapes Go.ChangeAt Go.RowKit
set_option linter.unusedVariables false
abbrev vecV (x y : Int) : Value := .agg #[.int .i64 x, .int .i64 y]
theorem made_box {w w1 : World} {A : Array Value} {t : TypeId} (hb : Made (w.alloc (.cells A t)).heap.size (w.alloc (.cells A t)) w1) : Made w.heap.size w w1 :=
 ((Made.rfl_ w.heap.size w).cells (Nat.le_refl _) A t).then_ (hb.low (by simp))
theorem vadd_c (a b c d : Int) (w : World) (ha : I64 a) (hb : I64 b) (hc : I64 c) (hd : I64 d) :
  Calls Tryz.prog 10 #[vecV a b, vecV c d] w fun e w' => e = .returned (vecV (addF a c) (addF b d)) ∧ Made w.heap.size w w' := by
 go_enter Tryz.func10, Tryz.ntmps10
 go_wp2_with fail
 refine reg_made_tail 11 (by kernel_rfl) (by kernel_rfl) ?_
 intro T hT f hf
 have c00 := Class.reads hf (p := ⟨w.heap.size, 0, none⟩) (u := .int .i64 a) (by go_simp)
 have c01 := Class.reads hf (p := ⟨w.heap.size, 1, none⟩) (u := .int .i64 b) (by go_simp)
 have c10 := Class.reads hf (p := ⟨w.heap.size + 1, 0, none⟩) (u := .int .i64 c) (by go_simp)
 have c11 := Class.reads hf (p := ⟨w.heap.size + 1, 1, none⟩) (u := .int .i64 d) (by go_simp)
 simp only [List.take_succ_cons, List.take_zero, List.drop_succ_cons, List.drop_zero]
 repeat (go_big_quiet_step (((go_at_call 26; exact hf.same (add_c _ _ _ (by first | assumption | exact i64_mul _ _ | exact i64_add _ _ | exact i64_sub _ _ | exact i64_div _ _ | exact i64_sqrt _ | exact i64_neg (by assumption)) (by first | assumption | exact i64_mul _ _ | exact i64_add _ _ | exact i64_sub _ _ | exact i64_div _ _ | exact i64_sqrt _ | exact i64_neg (by assumption)))))))
 refine wpQuiet_nil ?_
 intro w1 h1
 have hb := hf.here h1
 have r0 := hb.reads (p := ⟨w.heap.size + 1 + 1, 0, none⟩) (x := .int .i64 0) (by go_simp)
 have m0 : w1.frozen? ⟨w.heap.size + 1 + 1, 0, none⟩ = false := (hb.2 _).trans (by go_simp)
 have r1 := hb.reads (p := ⟨w.heap.size + 1 + 1, 1, none⟩) (x := .int .i64 0) (by go_simp)
 have m1 : w1.frozen? ⟨w.heap.size + 1 + 1, 1, none⟩ = false := (hb.2 _).trans (by go_simp)
 have hw := hid (made_box (made_box (made_box (hb))))
 clear hb hf h1 c00 c01 c10 c11
 go_wp2_with fail
 refine bodyPost_ret (v := vecV (addF a c) (addF b d)) (by simp [results, Tryz.results10, go_sem, r0, r1]) rfl ⟨rfl, ?_⟩
 exact (hw.out.put (by simp; try omega) _).put (by simp; try omega) _
theorem vsub_c (a b c d : Int) (w : World) (ha : I64 a) (hb : I64 b) (hc : I64 c) (hd : I64 d) :
  Calls Tryz.prog 9 #[vecV a b, vecV c d] w fun e w' => e = .returned (vecV (subF a c) (subF b d)) ∧ Made w.heap.size w w' := by
 go_enter Tryz.func9, Tryz.ntmps9
 go_wp2_with fail
 refine reg_made_tail 11 (by kernel_rfl) (by kernel_rfl) ?_
 intro T hT f hf
 have c00 := Class.reads hf (p := ⟨w.heap.size, 0, none⟩) (u := .int .i64 a) (by go_simp)
 have c01 := Class.reads hf (p := ⟨w.heap.size, 1, none⟩) (u := .int .i64 b) (by go_simp)
 have c10 := Class.reads hf (p := ⟨w.heap.size + 1, 0, none⟩) (u := .int .i64 c) (by go_simp)
 have c11 := Class.reads hf (p := ⟨w.heap.size + 1, 1, none⟩) (u := .int .i64 d) (by go_simp)
 simp only [List.take_succ_cons, List.take_zero, List.drop_succ_cons, List.drop_zero]
 repeat (go_big_quiet_step (((go_at_call 14; exact hf.same (sub_c _ _ _ (by first | assumption | exact i64_mul _ _ | exact i64_add _ _ | exact i64_sub _ _ | exact i64_div _ _ | exact i64_sqrt _ | exact i64_neg (by assumption)) (by first | assumption | exact i64_mul _ _ | exact i64_add _ _ | exact i64_sub _ _ | exact i64_div _ _ | exact i64_sqrt _ | exact i64_neg (by assumption)))))))
 refine wpQuiet_nil ?_
 intro w1 h1
 have hb := hf.here h1
 have r0 := hb.reads (p := ⟨w.heap.size + 1 + 1, 0, none⟩) (x := .int .i64 0) (by go_simp)
 have m0 : w1.frozen? ⟨w.heap.size + 1 + 1, 0, none⟩ = false := (hb.2 _).trans (by go_simp)
 have r1 := hb.reads (p := ⟨w.heap.size + 1 + 1, 1, none⟩) (x := .int .i64 0) (by go_simp)
 have m1 : w1.frozen? ⟨w.heap.size + 1 + 1, 1, none⟩ = false := (hb.2 _).trans (by go_simp)
 have hw := hid (made_box (made_box (made_box (hb))))
 clear hb hf h1 c00 c01 c10 c11
 go_wp2_with fail
 refine bodyPost_ret (v := vecV (subF a c) (subF b d)) (by simp [results, Tryz.results9, go_sem, r0, r1]) rfl ⟨rfl, ?_⟩
 exact (hw.out.put (by simp; try omega) _).put (by simp; try omega) _
theorem vscale_c (a b s : Int) (w : World) (ha : I64 a) (hb : I64 b) (hs : I64 s) :
  Calls Tryz.prog 85 #[vecV a b, .int .i64 s] w fun e w' => e = .returned (vecV (mulF a s) (mulF b s)) ∧ Made w.heap.size w w' := by
 go_enter Tryz.func85, Tryz.ntmps85
 go_wp2_with fail
 refine reg_made_tail 9 (by kernel_rfl) (by kernel_rfl) ?_
 intro T hT f hf
 have c00 := Class.reads hf (p := ⟨w.heap.size, 0, none⟩) (u := .int .i64 a) (by go_simp)
 have c01 := Class.reads hf (p := ⟨w.heap.size, 1, none⟩) (u := .int .i64 b) (by go_simp)
 simp only [List.take_succ_cons, List.take_zero, List.drop_succ_cons, List.drop_zero]
 repeat (go_big_quiet_step (((go_at_call 12; exact hf.same (mul_c _ _ _ (by first | assumption | exact i64_mul _ _ | exact i64_add _ _ | exact i64_sub _ _ | exact i64_div _ _ | exact i64_sqrt _ | exact i64_neg (by assumption)) (by first | assumption | exact i64_mul _ _ | exact i64_add _ _ | exact i64_sub _ _ | exact i64_div _ _ | exact i64_sqrt _ | exact i64_neg (by assumption)))))))
 refine wpQuiet_nil ?_
 intro w1 h1
 have hb := hf.here h1
 have r0 := hb.reads (p := ⟨w.heap.size + 1, 0, none⟩) (x := .int .i64 0) (by go_simp)
 have m0 : w1.frozen? ⟨w.heap.size + 1, 0, none⟩ = false := (hb.2 _).trans (by go_simp)
 have r1 := hb.reads (p := ⟨w.heap.size + 1, 1, none⟩) (x := .int .i64 0) (by go_simp)
 have m1 : w1.frozen? ⟨w.heap.size + 1, 1, none⟩ = false := (hb.2 _).trans (by go_simp)
 have hw := hid (made_box (made_box (hb)))
 clear hb hf h1 c00 c01
 go_wp2_with fail
 refine bodyPost_ret (v := vecV (mulF a s) (mulF b s)) (by simp [results, Tryz.results85, go_sem, r0, r1]) rfl ⟨rfl, ?_⟩
 exact (hw.out.put (by simp; try omega) _).put (by simp; try omega) _
theorem vdot_c (a b c d : Int) (w : World) (ha : I64 a) (hb : I64 b) (hc : I64 c) (hd : I64 d) :
  Calls Tryz.prog 36 #[vecV a b, vecV c d] w fun e w' => e = .returned (.int .i64 (addF (mulF a c) (mulF b d))) ∧ Made w.heap.size w w' := by
 go_enter Tryz.func36, Tryz.ntmps36
 go_wp2_with fail
 refine reg_made (by kernel_rfl) (by kernel_rfl) ?_
 intro T hT f hf
 have c00 := Class.reads hf (p := ⟨w.heap.size, 0, none⟩) (u := .int .i64 a) (by go_simp)
 have c01 := Class.reads hf (p := ⟨w.heap.size, 1, none⟩) (u := .int .i64 b) (by go_simp)
 have c10 := Class.reads hf (p := ⟨w.heap.size + 1, 0, none⟩) (u := .int .i64 c) (by go_simp)
 have c11 := Class.reads hf (p := ⟨w.heap.size + 1, 1, none⟩) (u := .int .i64 d) (by go_simp)
 repeat (go_big_quiet_step ((first
   | (go_at_call 12; exact hf.same (mul_c _ _ _ (by first | assumption | exact i64_mul _ _ | exact i64_add _ _ | exact i64_sub _ _ | exact i64_div _ _ | exact i64_sqrt _ | exact i64_neg (by assumption)) (by first | assumption | exact i64_mul _ _ | exact i64_add _ _ | exact i64_sub _ _ | exact i64_div _ _ | exact i64_sqrt _ | exact i64_neg (by assumption))))
   | (go_at_call 26; exact hf.same (add_c _ _ _ (by first | assumption | exact i64_mul _ _ | exact i64_add _ _ | exact i64_sub _ _ | exact i64_div _ _ | exact i64_sqrt _ | exact i64_neg (by assumption)) (by first | assumption | exact i64_mul _ _ | exact i64_add _ _ | exact i64_sub _ _ | exact i64_div _ _ | exact i64_sqrt _ | exact i64_neg (by assumption)))))))
 refine wpQuiet_nil ?_
 intro w1 h1
 have hb := hf.here h1
 have hw := hid (made_box (made_box (hb)))
 clear hb hf h1 c00 c01 c10 c11
 go_wp2_with fail
 go_ret
 exact ⟨rfl, hw.out⟩
theorem vcross_c (a b c d : Int) (w : World) (ha : I64 a) (hb : I64 b) (hc : I64 c) (hd : I64 d) :
  Calls Tryz.prog 38 #[vecV a b, vecV c d] w fun e w' => e = .returned (.int .i64 (subF (mulF a d) (mulF b c))) ∧ Made w.heap.size w w' := by
 go_enter Tryz.func38, Tryz.ntmps38
 go_wp2_with fail
 refine reg_made (by kernel_rfl) (by kernel_rfl) ?_
 intro T hT f hf
 have c00 := Class.reads hf (p := ⟨w.heap.size, 0, none⟩) (u := .int .i64 a) (by go_simp)
 have c01 := Class.reads hf (p := ⟨w.heap.size, 1, none⟩) (u := .int .i64 b) (by go_simp)
 have c10 := Class.reads hf (p := ⟨w.heap.size + 1, 0, none⟩) (u := .int .i64 c) (by go_simp)
 have c11 := Class.reads hf (p := ⟨w.heap.size + 1, 1, none⟩) (u := .int .i64 d) (by go_simp)
 repeat (go_big_quiet_step ((first
   | (go_at_call 12; exact hf.same (mul_c _ _ _ (by first | assumption | exact i64_mul _ _ | exact i64_add _ _ | exact i64_sub _ _ | exact i64_div _ _ | exact i64_sqrt _ | exact i64_neg (by assumption)) (by first | assumption | exact i64_mul _ _ | exact i64_add _ _ | exact i64_sub _ _ | exact i64_div _ _ | exact i64_sqrt _ | exact i64_neg (by assumption))))
   | (go_at_call 14; exact hf.same (sub_c _ _ _ (by first | assumption | exact i64_mul _ _ | exact i64_add _ _ | exact i64_sub _ _ | exact i64_div _ _ | exact i64_sqrt _ | exact i64_neg (by assumption)) (by first | assumption | exact i64_mul _ _ | exact i64_add _ _ | exact i64_sub _ _ | exact i64_div _ _ | exact i64_sqrt _ | exact i64_neg (by assumption)))))))
 refine wpQuiet_nil ?_
 intro w1 h1
 have hb := hf.here h1
 have hw := hid (made_box (made_box (hb)))
 clear hb hf h1 c00 c01 c10 c11
 go_wp2_with fail
 go_ret
 exact ⟨rfl, hw.out⟩
theorem vleft_c (a b : Int) (w : World) (ha : I64 a) (hb : I64 b) :
  Calls Tryz.prog 81 #[vecV a b] w fun e w' => e = .returned (vecV (negF b) (a)) ∧ Made w.heap.size w w' := by
 go_enter Tryz.func81, Tryz.ntmps81
 go_wp2_with fail
 refine reg_made_tail 6 (by kernel_rfl) (by kernel_rfl) ?_
 intro T hT f hf
 have c00 := Class.reads hf (p := ⟨w.heap.size, 0, none⟩) (u := .int .i64 a) (by go_simp)
 have c01 := Class.reads hf (p := ⟨w.heap.size, 1, none⟩) (u := .int .i64 b) (by go_simp)
 simp only [List.take_succ_cons, List.take_zero, List.drop_succ_cons, List.drop_zero]
 repeat (go_big_quiet_step (((go_at_call 34; exact hf.same (neg_c _ _ (by first | assumption | exact i64_mul _ _ | exact i64_add _ _ | exact i64_sub _ _ | exact i64_div _ _ | exact i64_sqrt _ | exact i64_neg (by assumption)))))))
 refine wpQuiet_nil ?_
 intro w1 h1
 have hb := hf.here h1
 have r0 := hb.reads (p := ⟨w.heap.size + 1, 0, none⟩) (x := .int .i64 0) (by go_simp)
 have m0 : w1.frozen? ⟨w.heap.size + 1, 0, none⟩ = false := (hb.2 _).trans (by go_simp)
 have r1 := hb.reads (p := ⟨w.heap.size + 1, 1, none⟩) (x := .int .i64 0) (by go_simp)
 have m1 : w1.frozen? ⟨w.heap.size + 1, 1, none⟩ = false := (hb.2 _).trans (by go_simp)
 have hw := hid (made_box (made_box (hb)))
 clear hb hf h1 c00 c01
 go_wp2_with fail
 refine bodyPost_ret (v := vecV (negF b) (a)) (by simp [results, Tryz.results81, go_sem, r0, r1]) rfl ⟨rfl, ?_⟩
 exact (hw.out.put (by simp; try omega) _).put (by simp; try omega) _
theorem vapply_c (c s a b : Int) (w : World) (hc : I64 c) (hs : I64 s) (ha : I64 a) (hb : I64 b) :
  Calls Tryz.prog 7 #[vecV c s, vecV a b] w fun e w' => e = .returned (vecV (subF (mulF c a) (mulF s b)) (addF (mulF s a) (mulF c b))) ∧ Made w.heap.size w w' := by
 go_enter Tryz.func7, Tryz.ntmps7
 go_wp2_with fail
 refine reg_made_tail 23 (by kernel_rfl) (by kernel_rfl) ?_
 intro T hT f hf
 have c00 := Class.reads hf (p := ⟨w.heap.size, 0, none⟩) (u := .int .i64 c) (by go_simp)
 have c01 := Class.reads hf (p := ⟨w.heap.size, 1, none⟩) (u := .int .i64 s) (by go_simp)
 have c10 := Class.reads hf (p := ⟨w.heap.size + 1, 0, none⟩) (u := .int .i64 a) (by go_simp)
 have c11 := Class.reads hf (p := ⟨w.heap.size + 1, 1, none⟩) (u := .int .i64 b) (by go_simp)
 simp only [List.take_succ_cons, List.take_zero, List.drop_succ_cons, List.drop_zero]
 repeat (go_big_quiet_step ((first
   | (go_at_call 12; exact hf.same (mul_c _ _ _ (by first | assumption | exact i64_mul _ _ | exact i64_add _ _ | exact i64_sub _ _ | exact i64_div _ _ | exact i64_sqrt _ | exact i64_neg (by assumption)) (by first | assumption | exact i64_mul _ _ | exact i64_add _ _ | exact i64_sub _ _ | exact i64_div _ _ | exact i64_sqrt _ | exact i64_neg (by assumption))))
   | (go_at_call 14; exact hf.same (sub_c _ _ _ (by first | assumption | exact i64_mul _ _ | exact i64_add _ _ | exact i64_sub _ _ | exact i64_div _ _ | exact i64_sqrt _ | exact i64_neg (by assumption)) (by first | assumption | exact i64_mul _ _ | exact i64_add _ _ | exact i64_sub _ _ | exact i64_div _ _ | exact i64_sqrt _ | exact i64_neg (by assumption))))
   | (go_at_call 26; exact hf.same (add_c _ _ _ (by first | assumption | exact i64_mul _ _ | exact i64_add _ _ | exact i64_sub _ _ | exact i64_div _ _ | exact i64_sqrt _ | exact i64_neg (by assumption)) (by first | assumption | exact i64_mul _ _ | exact i64_add _ _ | exact i64_sub _ _ | exact i64_div _ _ | exact i64_sqrt _ | exact i64_neg (by assumption)))))))
 refine wpQuiet_nil ?_
 intro w1 h1
 have hb := hf.here h1
 have r0 := hb.reads (p := ⟨w.heap.size + 1 + 1, 0, none⟩) (x := .int .i64 0) (by go_simp)
 have m0 : w1.frozen? ⟨w.heap.size + 1 + 1, 0, none⟩ = false := (hb.2 _).trans (by go_simp)
 have r1 := hb.reads (p := ⟨w.heap.size + 1 + 1, 1, none⟩) (x := .int .i64 0) (by go_simp)
 have m1 : w1.frozen? ⟨w.heap.size + 1 + 1, 1, none⟩ = false := (hb.2 _).trans (by go_simp)
 have hw := hid (made_box (made_box (made_box (hb))))
 clear hb hf h1 c00 c01 c10 c11
 go_wp2_with fail
 refine bodyPost_ret (v := vecV (subF (mulF c a) (mulF s b)) (addF (mulF s a) (mulF c b))) (by simp [results, Tryz.results7, go_sem, r0, r1]) rfl ⟨rfl, ?_⟩
 exact (hw.out.put (by simp; try omega) _).put (by simp; try omega) _
end Go.Proofs.YtjhcejmfiekjgaaGreat.Fx
/- Contracts of package vec: Bring, Spun, Len, Unit. -/
namespace Go.Proofs.YtjhcejmfiekjgaaGreat.Fx
open Go.ChangeShapes Go.WideShapes Go.ChangeAt Go.RowKit
set_option linter.unusedVariables false
theorem vbring_c (a b m : Int) (w : World) (ha : I64 a) (hb : I64 b) (hm : I64 m) :
  Calls Tryz.prog 87 #[vecV a b, .int .i64 m] w fun e w' => e = .returned (vecV (bringF a (negF m) m) (bringF b (negF m) m)) ∧ Made w.heap.size w w' := by
 have hn := i64_neg hm
 go_enter Tryz.func87, Tryz.ntmps87
 go_wp2_with fail
 refine (neg_c m _ hm).mono ?_
 rintro e w' ⟨rfl, rfl⟩
 go_wp2_with fail
 refine reg_made_tail 11 (by kernel_rfl) (by kernel_rfl) ?_
 intro T hT f hf
 have c00 := Class.reads hf (p := ⟨w.heap.size, 0, none⟩) (u := .int .i64 a) (by go_simp)
 have c01 := Class.reads hf (p := ⟨w.heap.size, 1, none⟩) (u := .int .i64 b) (by go_simp)
 simp only [List.take_succ_cons, List.take_zero, List.drop_succ_cons, List.drop_zero]
 repeat (go_big_quiet_step ((go_at_call 62; exact hf.same (bring_c _ _ _ _ (by assumption) (by assumption) (by assumption)))))
 refine wpQuiet_nil ?_
 intro w1 h1
 have hb := hf.here h1
 have r0 := hb.reads (p := ⟨w.heap.size + 1, 0, none⟩) (x := .int .i64 0) (by go_simp)
 have m0 : w1.frozen? ⟨w.heap.size + 1, 0, none⟩ = false := (hb.2 _).trans (by go_simp)
 have r1 := hb.reads (p := ⟨w.heap.size + 1, 1, none⟩) (x := .int .i64 0) (by go_simp)
 have m1 : w1.frozen? ⟨w.heap.size + 1, 1, none⟩ = false := (hb.2 _).trans (by go_simp)
 have hw := hid (made_box (made_box hb))
 clear hb hf h1 c00 c01
 go_wp2_with fail
 refine bodyPost_ret (v := vecV (bringF a (negF m) m) (bringF b (negF m) m)) (by simp [results, Tryz.results87, go_sem, r0, r1]) rfl ⟨rfl, ?_⟩
 exact (hw.out.put (by simp; try omega) _).put (by simp; try omega) _
theorem vspun_c (s a b : Int) (w : World) (hs : I64 s) (ha : I64 a) (hb : I64 b) :
  Calls Tryz.prog 122 #[.int .i64 s, vecV a b] w fun e w' => e = .returned (vecV (mulF (negF b) s) (mulF a s)) ∧ Made w.heap.size w w' := by
 have hn := i64_neg hb
 go_enter Tryz.func122, Tryz.ntmps122
 go_wp2_with fail
 refine (vleft_c a b _ ha hb).mono ?_
 rintro e w1 ⟨rfl, k1⟩
 have r0 := k1.reads (p := ⟨w.heap.size + 1, 0, none⟩) (x := .int .i64 0) (by go_simp)
 have m0 : w1.frozen? ⟨w.heap.size + 1, 0, none⟩ = false := (k1.2 _).trans (by go_simp)
 have r1 := k1.reads (p := ⟨w.heap.size + 1, 1, none⟩) (x := .int .i64 0) (by go_simp)
 have m1 : w1.frozen? ⟨w.heap.size + 1, 1, none⟩ = false := (k1.2 _).trans (by go_simp)
 have s1 : w.heap.size ≤ w1.heap.size := by have := k1.1.size; simp at this; omega
 have H1 := hid (made_box (made_box k1))
 have R0 := hid r0
 have R1 := hid r1
 have M0 := hid m0
 have M1 := hid m1
 clear k1 r0 r1 m0 m1
 go_wp2_with fail
 refine (vscale_c (negF b) a s _ hn ha hs).mono ?_
 rintro e w2 ⟨rfl, k2⟩
 have r0 := k2.reads R0.out
 have r1 := k2.reads R1.out
 have m0 := (k2.2 _).trans M0.out
 have m1 := (k2.2 _).trans M1.out
 have hw := hid (H1.out.then_ (k2.low s1))
 clear k2
 go_wp2_with fail
 refine bodyPost_ret (v := vecV (mulF (negF b) s) (mulF a s)) (by simp [results, Tryz.results122, go_sem, r0, r1]) rfl ⟨rfl, ?_⟩
 exact (hw.out.put (by simp; try omega) _).put (by simp; try omega) _
theorem i64_len (a b : Int) : I64 (lenF a b) := i64_sqrt _
theorem vlen_c (a b : Int) (w : World) (ha : I64 a) (hb : I64 b) :
  Calls Tryz.prog 15 #[vecV a b] w fun e w' => e = .returned (.int .i64 (lenF a b)) ∧ Made w.heap.size w w' := by
 go_enter Tryz.func15, Tryz.ntmps15
 go_wp2_with fail
 refine (vdot_c a b a b _ ha hb ha hb).mono ?_
 rintro e w1 ⟨rfl, k1⟩
 have hw := hid (made_box k1)
 clear k1
 go_wp2_with fail
 refine (sqrt_c (addF (mulF a a) (mulF b b)) _ (i64_add _ _)).mono ?_
 rintro e w' ⟨rfl, rfl⟩
 go_wp2_with fail
 go_ret
 exact ⟨rfl, hw.out⟩
def unitV (a b : Int) : Value := if lenF a b = 0 then .tuple #[vecV 0 0, .bool false] else .tuple #[vecV (divF a (lenF a b)) (divF b (lenF a b)), .bool true]
theorem vunit_c (a b : Int) (w : World) (ha : I64 a) (hb : I64 b) :
  Calls Tryz.prog 11 #[vecV a b] w fun e w' => e = .returned (unitV a b) ∧ Made w.heap.size w w' := by
 have hn := i64_len a b
 by_cases hz : lenF a b = 0
 ·have E : Hid (unitV a b = .tuple #[vecV 0 0, .bool false]) := by unfold Hid unitV; rw [if_pos hz]
  have hz' := hid hz
  clear hz
  go_enter Tryz.func11, Tryz.ntmps11
  go_wp2_with fail
  refine (vlen_c a b _ ha hb).mono ?_
  rintro e w1 ⟨rfl, k1⟩
  rw [hz'.out]
  have r0 := k1.reads (p := ⟨w.heap.size + 1, 0, none⟩) (x := .int .i64 0) (by go_simp)
  have m0 : w1.frozen? ⟨w.heap.size + 1, 0, none⟩ = false := (k1.2 _).trans (by go_simp)
  have r1 := k1.reads (p := ⟨w.heap.size + 1, 1, none⟩) (x := .int .i64 0) (by go_simp)
  have m1 : w1.frozen? ⟨w.heap.size + 1, 1, none⟩ = false := (k1.2 _).trans (by go_simp)
  have hw := hid (made_box (made_box k1))
  clear k1
  go_wp2_with fail
  refine bodyPost_ret (v := .tuple #[vecV 0 0, .bool false]) (by simp [results, Tryz.results11, go_sem, r0, r1]) rfl ⟨by rw [E.out], ?_⟩
  exact (hw.out.put (by simp; try omega) _).put (by simp; try omega) _
 ·have E : Hid (unitV a b = .tuple #[vecV (divF a (lenF a b)) (divF b (lenF a b)), .bool true]) := by unfold Hid unitV; rw [if_neg hz]
  have hz' : (lenF a b == 0) = false := by simp [hz]
  clear hz
  go_enter Tryz.func11, Tryz.ntmps11
  go_wp2_with fail
  refine (vlen_c a b _ ha hb).mono ?_
  rintro e w1 ⟨rfl, k1⟩
  have c0 := k1.reads (p := ⟨w.heap.size, 0, none⟩) (x := .int .i64 a) (by go_simp)
  have c1 := k1.reads (p := ⟨w.heap.size, 1, none⟩) (x := .int .i64 b) (by go_simp)
  have r0 := k1.reads (p := ⟨w.heap.size + 1, 0, none⟩) (x := .int .i64 0) (by go_simp)
  have m0 : w1.frozen? ⟨w.heap.size + 1, 0, none⟩ = false := (k1.2 _).trans (by go_simp)
  have r1 := k1.reads (p := ⟨w.heap.size + 1, 1, none⟩) (x := .int .i64 0) (by go_simp)
  have m1 : w1.frozen? ⟨w.heap.size + 1, 1, none⟩ = false := (k1.2 _).trans (by go_simp)
  have s1 : w.heap.size ≤ w1.heap.size := by have := k1.1.size; simp at this; omega
  have H1 := hid (made_box (made_box k1))
  have R0 := hid r0
  have R1 := hid r1
  have M0 := hid m0
  have M1 := hid m1
  clear k1 r0 r1 m0 m1
  go_wp2_with fail
  refine reg_made_tail 9 (by kernel_rfl) (by kernel_rfl) ?_
  intro T hT f hf
  have d0 := Class.reads hf c0
  have d1 := Class.reads hf c1
  simp only [List.take_succ_cons, List.take_zero, List.drop_succ_cons, List.drop_zero]
  repeat (go_big_quiet_step ((go_at_call 29; exact hf.drawn (div_c _ _ _ (by assumption) (by assumption)))))
  refine wpQuiet_nil ?_
  intro w2 h2
  have k2 := hf.here h2
  have r0 := k2.reads R0.out
  have r1 := k2.reads R1.out
  have m0 := (k2.2 _).trans M0.out
  have m1 := (k2.2 _).trans M1.out
  have hw := hid (H1.out.then_ (k2.low s1))
  clear k2 hf h2 c0 c1 d0 d1
  go_wp2_with fail
  refine bodyPost_ret (v := .tuple #[vecV (divF a (lenF a b)) (divF b (lenF a b)), .bool true]) (by simp [results, Tryz.results11, go_sem, r0, r1]) rfl ⟨by rw [E.out], ?_⟩
  exact (hw.out.put (by simp; try omega) _).put (by simp; try omega) _
theorem unitV_of {a b n x y : Int} (hn : lenF a b = n) (h : n ≠ 0) (hx : divF a n = x) (hy : divF b n = y) : unitV a b = .tuple #[vecV x y, .bool true] := by
 subst hn; subst hx; subst hy; unfold unitV; rw [if_neg h]
theorem unitV_no {a b : Int} (hn : lenF a b = 0) : unitV a b = .tuple #[vecV 0 0, .bool false] := by unfold unitV; rw [if_pos hn]
theorem of_is (n r : Int) (w : World) (h : I64 n) (e : ofF n = r) : Calls Tryz.prog 33 #[.int .i64 n] w fun e w' => e = .returned (.int .i64 r) ∧ w = w' := by subst e; exact of_c n w h
theorem part_is (a b r : Int) (w : World) (ha : I64 a) (hb : I64 b) (e : partF a b = r) : Calls Tryz.prog 13 #[.int .i64 a, .int .i64 b] w (Ret (.int .i64 r) w) := by subst e; exact part_c a b w ha hb
theorem vlen_is (a b r : Int) (w : World) (ha : I64 a) (hb : I64 b) (e : lenF a b = r) : Calls Tryz.prog 15 #[vecV a b] w fun e w' => e = .returned (.int .i64 r) ∧ Made w.heap.size w w' := by subst e; exact vlen_c a b w ha hb
theorem vunit_is (a b : Int) (r : Value) (w : World) (ha : I64 a) (hb : I64 b) (e : unitV a b = r) : Calls Tryz.prog 11 #[vecV a b] w fun e w' => e = .returned r ∧ Made w.heap.size w w' := by subst e; exact vunit_c a b w ha hb
theorem vdot_is (a b c d r : Int) (w : World) (ha : I64 a) (hb : I64 b) (hc : I64 c) (hd : I64 d) (e : addF (mulF a c) (mulF b d) = r) : Calls Tryz.prog 36 #[vecV a b, vecV c d] w fun e w' => e = .returned (.int .i64 r) ∧ Made w.heap.size w w' := by subst e; exact vdot_c a b c d w ha hb hc hd
theorem vcross_is (a b c d r : Int) (w : World) (ha : I64 a) (hb : I64 b) (hc : I64 c) (hd : I64 d) (e : subF (mulF a d) (mulF b c) = r) : Calls Tryz.prog 38 #[vecV a b, vecV c d] w fun e w' => e = .returned (.int .i64 r) ∧ Made w.heap.size w w' := by subst e; exact vcross_c a b c d w ha hb hc hd
theorem vleft_is (a b x : Int) (w : World) (ha : I64 a) (hb : I64 b) (ex : negF b = x) : Calls Tryz.prog 81 #[vecV a b] w fun e w' => e = .returned (vecV x a) ∧ Made w.heap.size w w' := by subst ex; exact vleft_c a b w ha hb
theorem vadd_is (a b c d x y : Int) (w : World) (ha : I64 a) (hb : I64 b) (hc : I64 c) (hd : I64 d) (ex : addF a c = x) (ey : addF b d = y) : Calls Tryz.prog 10 #[vecV a b, vecV c d] w fun e w' => e = .returned (vecV x y) ∧ Made w.heap.size w w' := by subst ex; subst ey; exact vadd_c a b c d w ha hb hc hd
theorem vsub_is (a b c d x y : Int) (w : World) (ha : I64 a) (hb : I64 b) (hc : I64 c) (hd : I64 d) (ex : subF a c = x) (ey : subF b d = y) : Calls Tryz.prog 9 #[vecV a b, vecV c d] w fun e w' => e = .returned (vecV x y) ∧ Made w.heap.size w w' := by subst ex; subst ey; exact vsub_c a b c d w ha hb hc hd
theorem vscale_is (a b s x y : Int) (w : World) (ha : I64 a) (hb : I64 b) (hs : I64 s) (ex : mulF a s = x) (ey : mulF b s = y) : Calls Tryz.prog 85 #[vecV a b, .int .i64 s] w fun e w' => e = .returned (vecV x y) ∧ Made w.heap.size w w' := by subst ex; subst ey; exact vscale_c a b s w ha hb hs
theorem vbring_is (a b m x y : Int) (w : World) (ha : I64 a) (hb : I64 b) (hm : I64 m) (ex : bringF a (negF m) m = x) (ey : bringF b (negF m) m = y) : Calls Tryz.prog 87 #[vecV a b, .int .i64 m] w fun e w' => e = .returned (vecV x y) ∧ Made w.heap.size w w' := by subst ex; subst ey; exact vbring_c a b m w ha hb hm
theorem vapply_is (c s a b x y : Int) (w : World) (hc : I64 c) (hs : I64 s) (ha : I64 a) (hb : I64 b) (ex : subF (mulF c a) (mulF s b) = x) (ey : addF (mulF s a) (mulF c b) = y) : Calls Tryz.prog 7 #[vecV c s, vecV a b] w fun e w' => e = .returned (vecV x y) ∧ Made w.heap.size w w' := by subst ex; subst ey; exact vapply_c c s a b w hc hs ha hb
end Go.Proofs.YtjhcejmfiekjgaaGreat.Fx
/- The statements' own anchor of layer 3. -/
namespace Go.Proofs.YtjhcejmfiekjgaaGreat.Fx
open Go.ChangeShapes Go.WideShapes Go.ChangeAt Go.RowKit
set_option linter.unusedVariables false
end Go.Proofs.YtjhcejmfiekjgaaGreat.Fx
/- VecBrings: the walk. -/
namespace Go.Proofs.YtjhcejmfiekjgaaGreat.Fx
open Go.ChangeShapes Go.WideShapes Go.ChangeAt Go.RowKit
set_option linter.unusedVariables false
theorem bring_is (a b c r : Int) (w : World) (ha : I64 a) (hb : I64 b) (hc : I64 c) (e : bringF a b c = r) : Calls Tryz.prog 62 #[.int .i64 a, .int .i64 b, .int .i64 c] w fun e w' => e = .returned (.int .i64 r) ∧ w = w' := by subst e; exact bring_c a b c w ha hb hc
theorem bring_around {a m : Int} (ha : I64 a) (h0 : 0 ≤ m) (h1 : m ≤ 9223372036854775807) : -m ≤ bringF a (-m) m ∧ bringF a (-m) m ≤ m ∧ bringF (bringF a (-m) m) (-m) m = bringF a (-m) m := by
 have h2 := cl_bd ha
 unfold L M at h2
 have e1 : cl (-m) = -m := cl_id (by omega)
 have e2 : cl m = m := cl_id (by omega)
 have h : -m ≤ bringF a (-m) m ∧ bringF a (-m) m ≤ m := by unfold bringF; rw [e1, e2]; (repeat' split) <;> omega
 refine ⟨h.1, h.2, ?_⟩
 generalize bringF a (-m) m = x at h
 unfold bringF; rw [e1, e2, cl_id (by omega)]; (repeat' split) <;> omega
theorem negF_in {a : Int} (h : -9223372036854775807 ≤ a) : negF a = -a := by unfold negF; rw [cl_id h]
end Go.Proofs.YtjhcejmfiekjgaaGreat.Fx
/- VecAdds: the walk. -/
namespace Go.Proofs.YtjhcejmfiekjgaaGreat.Fx
open Go.ChangeShapes Go.WideShapes Go.ChangeAt Go.RowKit
set_option linter.unusedVariables false
theorem vspun_is (s a b x y : Int) (w : World) (hs : I64 s) (ha : I64 a) (hb : I64 b) (ex : mulF (negF b) s = x) (ey : mulF a s = y) : Calls Tryz.prog 122 #[.int .i64 s, vecV a b] w fun e w' => e = .returned (vecV x y) ∧ Made w.heap.size w w' := by subst ex; subst ey; exact vspun_c s a b w hs ha hb
end Go.Proofs.YtjhcejmfiekjgaaGreat.Fx
/- VecLaws: the walk. -/
namespace Go.Proofs.YtjhcejmfiekjgaaGreat.Fx
open Go.ChangeShapes Go.WideShapes Go.ChangeAt Go.RowKit
set_option linter.unusedVariables false
def Sx (a : Int) : Prop := -17592186044416 ≤ a ∧ a ≤ 17592186044416
theorem sub_is (a b r : Int) (w : World) (ha : I64 a) (hb : I64 b) (e : subF a b = r) : Calls Tryz.prog 14 #[.int .i64 a, .int .i64 b] w fun e w' => e = .returned (.int .i64 r) ∧ w = w' := by subst e; exact sub_c a b w ha hb
end Go.Proofs.YtjhcejmfiekjgaaGreat.Fx
/- VecUnits: the walk. -/
namespace Go.Proofs.YtjhcejmfiekjgaaGreat.Fx
open Go.ChangeShapes Go.WideShapes Go.ChangeAt Go.RowKit
set_option linter.unusedVariables false
theorem div_is (a b r : Int) (w : World) (ha : I64 a) (hb : I64 b) (e : divF a b = r) : Calls Tryz.prog 29 #[.int .i64 a, .int .i64 b] w (Ret (.int .i64 r) w) := by subst e; exact div_c a b w ha hb
end Go.Proofs.YtjhcejmfiekjgaaGreat.Fx
/- VecLens: the walk. -/
namespace Go.Proofs.YtjhcejmfiekjgaaGreat.Fx
open Go.ChangeShapes Go.WideShapes Go.ChangeAt Go.RowKit
set_option linter.unusedVariables false
theorem add_is (a b r : Int) (w : World) (ha : I64 a) (hb : I64 b) (e : addF a b = r) : Calls Tryz.prog 26 #[.int .i64 a, .int .i64 b] w fun e w' => e = .returned (.int .i64 r) ∧ w = w' := by subst e; exact add_c a b w ha hb
end Go.Proofs.YtjhcejmfiekjgaaGreat.Fx