/- The statement's own checksum: zeros appended; the bits; the division. -/
import Derived.Test.YtmdhlobonnikcaaDoorCrE
namespace Go.Proofs.YtmdhlobonnikcaaDoor.Fx
open Go.ChangeShapes Go.WideShapes Go.ChangeAt Go.RowKit
set_option linter.unusedVariables false

theorem zeros_bl : (Builtin.zeroCells (Value.int .u8 0).cells 32).toList = bl (fun _ => 0) 32 := by kernel_rfl
theorem zeros_ne : (Builtin.zeroCells (Value.int .u8 0).cells 32) = (bl (fun _ => 0) 32).toArray := by rw [← zeros_bl]
theorem own_grown {w : World} {base n : Nat} {f : Nat → Nat} (old m : Nat) (h63 : n + m ≤ 1099511627776) (hbase : base ≤ w.heap.size) (g : Nat → Nat) (row : Option Nat) :
    OB (w.drew.alloc (.cells ((bl f n).toArray ++ (bl g m).toArray ++ Builtin.zeroCells (Value.int .u8 0).cells (grownCap w (n + m) old 5 - (n + m))) 5)) base (.slice (some ⟨w.heap.size, 0, none⟩) (n + m) (grownCap w (n + m) old 5)) (n + m) (joinB f g n) ∧
      w.grownBy (w.drew.alloc (.cells ((bl f n).toArray ++ (bl g m).toArray ++ Builtin.zeroCells (Value.int .u8 0).cells (grownCap w (n + m) old 5 - (n + m))) 5)) row ∧
      ∀ p, (w.drew.alloc (.cells ((bl f n).toArray ++ (bl g m).toArray ++ Builtin.zeroCells (Value.int .u8 0).cells (grownCap w (n + m) old 5 - (n + m))) 5)).frozen? p = w.frozen? p := by
  have hge := grownCap_ge w (n + m) old 5
  have hcm : grownCap w (n + m) old 5 ≤ maxLen := grownCap_le_maxLen w (n + m) old 5 (by unfold maxLen; omega)
  refine ⟨⟨by rw [bl_len, Nat.mul_one], .inr ⟨w.heap.size, _, _, rfl, hbase, heap_alloc_new w.drew _, hge, hcm, ?_, ?_⟩⟩, ⟨rfl, rfl, rfl, by simp, fun k hk _ => Below.heap_alloc w.drew _ k hk⟩, fun p => (frozen?_alloc_cells _ _ _ _).trans (World.frozen?_drew ..)⟩
  · simp only [Array.size_append, List.size_toArray, size_zeroCells, bl_len]
    show n + m + (_ - (n + m)) * 1 = _ * 1
    omega
  · simp only [Array.toList_append, List.append_assoc, Nat.mul_one]
    rw [← List.append_assoc, bl_join]
    have := List.take_left (l₁ := bl (joinB f g n) (n + m)) (l₂ := (Builtin.zeroCells (Value.int .u8 0).cells (grownCap w (n + m) old 5 - (n + m))).toList)
    rwa [bl_len] at this
theorem append_zeros {w : World} {base n : Nat} {v : Value} {f : Nat → Nat} (ty : TypeId) (hown : OB w base v n f) (h63 : n ≤ 549755813888) (hbase : base ≤ w.heap.size) :
    ∃ v' w', (Builtin.append_ #[38, 3] ty #[v, .int .i64 32]).run Tryd.prog w = .ok v' w' ∧ OB w' base v' (n + 32) (joinB f (fun _ => 0) n) ∧ w.grownBy w' v.ownBlock ∧ (∀ p, w'.frozen? p = w.frozen? p) := by
  obtain ⟨i, hi, hz0, hz1, hz2⟩ := info_parts info8
  have ht := Tryd.underlying38
  have htn := Tryd.underlying3
  have hw : IntKind.i64.wrap (32 : Int) = 32 := by decide
  rcases hown.2 with ⟨rfl, rfl⟩ | ⟨g, cap, cur, rfl, hbg, hg, hnc, hcm, hcs, htake⟩
  · have hr := Lib.run_append_nil_zeros (P := Tryd.prog) w 38 3 ty 5 i (.int .u8 0) .i64 .i64 ht htn hi hz0 32 (by omega) (by rw [hz1]; omega) (by omega) (by rw [hz2]; omega)
    have hgr := own_grown (w := w) (base := base) (n := 0) (f := f) 0 32 (by omega) hbase (fun _ => 0) (Value.ownBlock (.slice none 0 0))
    rw [zeros_ne] at hr
    rw [show (bl f 0).toArray ++ (bl (fun _ => 0) 32).toArray = (bl (fun _ => 0) 32).toArray by simp [bl], Nat.zero_add] at hgr
    exact ⟨_, _, hr, hgr.1, hgr.2.1, hgr.2.2⟩
  · by_cases hroom : n + 32 ≤ cap
    · have hfit : n + (bl (fun _ => 0) 32).length ≤ cur.size := by rw [bl_len, hcs]; omega
      have hst := run_storeCells_at Tryd.prog g n 5 (bl (fun _ => 0) 32) 0 cur w hg (by simpa using hfit) (bl_one _ _)
      simp only [Nat.add_zero] at hst
      have hb48 : ¬ (281474976710656 < (32 : Int) * (i.bytes : Int)) := by rw [hz2]; omega
      refine ⟨.slice (some ⟨g, 0, none⟩) (n + 32) cap, w.setRow g (cur.toList.take n ++ bl (fun _ => 0) 32 ++ cur.toList.drop (n + (bl (fun _ => 0) 32).length)).toArray, ?_, ⟨by rw [bl_len, Nat.mul_one], .inr ⟨g, cap, _, rfl, hbg, setRow_heap w g cur _ _ _ hg, hroom, hcm, ?_, ?_⟩⟩, ⟨rfl, rfl, rfl, by simp, fun k _ hk => setRow_other w g k _ (fun e => hk (by simp [Value.ownBlock, e]))⟩, frozen_setRow _ _ _⟩
      · simp [Builtin.append_, run_underlying ht, run_underlying htn, sizeOf, typeInfo, zeroValue, hi, hz0, hz1, asInt, asIntOf, hw, hb48, hroom, Addr.add_lit, zeros_ne, hst]
      · simp only [List.size_toArray, List.length_append, List.length_take, List.length_drop, Array.length_toList, bl_len]
        omega
      · rw [Nat.mul_one] at htake
        rw [htake, bl_join, Nat.mul_one]
        have := List.take_left (l₁ := bl (joinB f (fun _ => 0) n) (n + 32)) (l₂ := cur.toList.drop (n + (bl (fun _ => 0) 32).length))
        rwa [bl_len] at this
    · have holds : ∀ j u, (bl f n)[j]? = some u → w.cell? ((⟨g, 0, none⟩ : Addr).add j) = some u := World.ownsRow.cells hown (g := g) rfl
      have hold : (Builtin.firstCells i.size n (.slice (some ⟨g, 0, none⟩) n cap)).run Tryd.prog w.drew = .ok (bl f n).toArray w.drew := run_firstCells_some w.drew i.size n ⟨g, 0, none⟩ n cap (bl f n) (by rw [bl_len, hz1, Nat.mul_one]) (by simpa using holds)
      rw [hz1] at hold
      have hb48 : ¬ (281474976710656 < (32 : Int) * (i.bytes : Int)) := by rw [hz2]; omega
      have hfit : Builtin.nextslicecap (n + 32) cap * i.bytes ≤ 281474976710656 := growslice_fits (by omega) (by rw [hz2]; omega)
      have h48' : ¬ (281474976710656 < Builtin.nextslicecap (n + 32) cap * i.bytes) := by omega
      have h63' : ¬ (9223372036854775807 < ((n : Int) + max 32 0)) := by omega
      have hgr := own_grown (w := w) (base := base) (n := n) (f := f) cap 32 (by omega) hbase (fun _ => 0) (Value.ownBlock (.slice (some ⟨g, 0, none⟩) n cap))
      refine ⟨_, _, ?_, hgr.1, hgr.2.1, hgr.2.2⟩
      simp [Builtin.append_, run_underlying ht, run_underlying htn, sizeOf, typeInfo, zeroValue, hi, hz0, hz1, asInt, asIntOf, hw, hb48, hroom, h63', h48', Question.forced, hold, newRow, grownCap, zeros_ne]
      congr 2
      apply Array.ext'
      simp [List.append_assoc]
theorem push_app (a b : ByteArray) (x : UInt8) : a ++ b.push x = (a ++ b).push x := by
  apply ByteArray.ext
  simp
theorem strB_app (f g : Nat → Nat) (n : Nat) : ∀ m, strB f n ++ strB g m = strB (joinB f g n) (n + m)
  | 0 => by
    have h : ∀ k, k ≤ n → strB (joinB f g n) k = strB f k := fun k => by
      induction k with
      | zero => intro _; rfl
      | succ k ih => intro hk; rw [strB_next, strB_next, ih (by omega), show joinB f g n k = f k by unfold joinB; rw [if_pos (by omega)]]
    rw [Nat.add_zero, h n (Nat.le_refl _)]
    show strB f n ++ ByteArray.empty = _
    simp
  | m + 1 => by
    rw [strB_next, push_app, strB_app f g n m, ← Nat.add_assoc, strB_next, show joinB f g n (n + m) = g m by unfold joinB; rw [if_neg (by omega), Nat.add_sub_cancel_left]]
/-- the low bits of a number of whatever sign -/
theorem cand_low (x : Int) (i : Nat) (hi : i ≤ 62) : bits .and .i64 x (2 ^ i - 1) = x % 2 ^ i := by
  have hpos : 0 < 2 ^ i := Nat.two_pow_pos i
  have hdvd : (2 : Nat) ^ i ∣ 2 ^ 64 := Nat.pow_dvd_pow 2 (by omega)
  have hle : (2 : Nat) ^ i ≤ 2 ^ 62 := Nat.pow_le_pow_right (by decide) hi
  have e1 : (BitVec.ofInt 64 ((2 : Int) ^ i - 1)).toNat = 2 ^ i - 1 := by
    have c : ((2 : Int) ^ i - 1) = ((2 ^ i - 1 : Nat) : Int) := by rw [Int.natCast_sub hpos]; simp
    rw [c, BitVec.ofInt_natCast, BitVec.toNat_ofNat, Nat.mod_eq_of_lt (by omega)]
  have e2 : ((BitVec.ofInt 64 x).toNat : Int) = x % 18446744073709551616 := by
    rw [BitVec.toNat_ofInt]; omega
  have hd2 : (2 : Int) ^ i ∣ 18446744073709551616 := by
    have t := Int.natCast_dvd_natCast.2 hdvd
    have e64 : ((2 ^ 64 : Nat) : Int) = 18446744073709551616 := by decide
    rw [e64, Int.natCast_pow] at t
    exact t
  unfold bits
  show IntKind.i64.wrap ((BitVec.ofInt 64 x &&& BitVec.ofInt 64 (2 ^ i - 1)).toNat : Int) = _
  rw [BitVec.toNat_and, e1, Nat.and_two_pow_sub_one_eq_mod, IntKind.wrap_i64]
  have h : (((BitVec.ofInt 64 x).toNat % 2 ^ i : Nat) : Int) = x % 2 ^ i := by
    rw [Int.natCast_emod, e2]
    have hp : (((2 : Nat) ^ i : Nat) : Int) = (2 : Int) ^ i := by rw [Int.natCast_pow]; rfl
    rw [hp]
    exact Int.emod_emod_of_dvd x hd2
  rw [h]
  have b0 : 0 ≤ x % 2 ^ i := Int.emod_nonneg _ (by have : (0:Int) < 2 ^ i := Int.pow_pos (by omega); omega)
  have b1 : x % 2 ^ i < 2 ^ i := Int.emod_lt_of_pos _ (Int.pow_pos (by omega))
  have b2 : (2 : Int) ^ i ≤ 4611686018427387904 := by
    have t := Int.ofNat_le.2 hle
    have e62 : ((2 ^ 62 : Nat) : Int) = 4611686018427387904 := by decide
    rw [e62, Int.natCast_pow] at t
    exact t
  omega
theorem cand7 (k : Nat) : bits .and .i64 (k : Int) 7 = ((k % 8 : Nat) : Int) := by
  rw [show (7 : Int) = 2 ^ 3 - 1 from by decide, cand_low _ 3 (by omega)]
  omega
theorem and1_8 {a : Nat} (ha : a < 256) : bits .and .u8 (a : Int) 1 = ((a % 2 : Nat) : Int) := by
  have := u8_and_nat a 1 ha (by omega)
  rw [show ((1 : Nat) : Int) = 1 from rfl] at this
  rw [this, show (1 : Nat) = 2 ^ 1 - 1 from rfl, Nat.and_two_pow_sub_one_eq_mod]
theorem bit_nat (x i : Nat) : x / 2 ^ i % 2 = (x.testBit i).toNat := (Nat.toNat_testBit x i).symm
theorem flip8 (b : Bool) : bits .xor .u8 (b.toNat : Int) 1 = (((!b).toNat : Nat) : Int) := by cases b <;> decide
def pwV : Array Value := (pw.map fun p => Value.int .i64 (p : Nat)).toArray
theorem pwV_at {m : Nat} (h : m < 15) : pwV[m]? = some (.int .i64 (pw.getD m 0 : Nat)) := by
  unfold pwV
  rw [List.getElem?_toArray, List.getElem?_map, List.getD_eq_getElem?_getD]
  have : m < pw.length := h
  rw [List.getElem?_eq_getElem this]
  rfl
end Go.Proofs.YtmdhlobonnikcaaDoor.Fx
