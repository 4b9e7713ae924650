/- The statement's own checksum: zeros appended; the bits; the division. -/
import Derived.Test.YtckhhghbpblpcaaDoorCrE
namespace Go.Proofs.YtckhhghbpblpcaaDoor.Fx
open Go.ChangeShapes Go.WideShapes Go.ChangeAt Go.RowKit
set_option linter.unusedVariables false

theorem zeros_bl : (Builtin.zeroCells (Value.int .u8 0).cells 32).toList = bl (fun _ => 0) 32 := by kernel_rfl
theorem zeros_ne : (Builtin.zeroCells (Value.int .u8 0).cells 32) = (bl (fun _ => 0) 32).toArray := by rw [← zeros_bl]
theorem own_grown {w : World} {base n : Nat} {f : Nat → Nat} (old m : Nat) (h63 : n + m ≤ 1099511627776) (hbase : base ≤ w.heap.size) (g : Nat → Nat) (row : Option Nat) :
    OB (w.drew.alloc (.cells ((bl f n).toArray ++ (bl g m).toArray ++ Builtin.zeroCells (Value.int .u8 0).cells (grownCap w (n + m) old 5 - (n + m))) 5)) base (.slice (some ⟨w.heap.size, 0, none⟩) (n + m) (grownCap w (n + m) old 5)) (n + m) (joinB f g n) ∧
      w.grownBy (w.drew.alloc (.cells ((bl f n).toArray ++ (bl g m).toArray ++ Builtin.zeroCells (Value.int .u8 0).cells (grownCap w (n + m) old 5 - (n + m))) 5)) row ∧
      ∀ p, (w.drew.alloc (.cells ((bl f n).toArray ++ (bl g m).toArray ++ Builtin.zeroCells (Value.int .u8 0).cells (grownCap w (n + m) old 5 - (n + m))) 5)).frozen? p = w.frozen? p := by
  have hge := grownCap_ge w (n + m) old 5
  have hcm : grownCap w (n + m) old 5 ≤ maxLen := grownCap_le_maxLen w (n + m) old 5 (by unfold maxLen; omega)
  refine ⟨⟨by rw [bl_len, Nat.mul_one], .inr ⟨w.heap.size, _, _, rfl, hbase, heap_alloc_new w.drew _, hge, hcm, ?_, ?_⟩⟩, ⟨rfl, rfl, rfl, by simp, fun k hk _ => Below.heap_alloc w.drew _ k hk⟩, fun p => (frozen?_alloc_cells _ _ _ _).trans (World.frozen?_drew ..)⟩
  · simp only [Array.size_append, List.size_toArray, size_zeroCells, bl_len]
    show n + m + (_ - (n + m)) * 1 = _ * 1
    omega
  · simp only [Array.toList_append, List.append_assoc, Nat.mul_one]
    rw [← List.append_assoc, bl_join]
    have := List.take_left (l₁ := bl (joinB f g n) (n + m)) (l₂ := (Builtin.zeroCells (Value.int .u8 0).cells (grownCap w (n + m) old 5 - (n + m))).toList)
    rwa [bl_len] at this
theorem append_zeros {w : World} {base n : Nat} {v : Value} {f : Nat → Nat} (ty : TypeId) (hown : OB w base v n f) (h63 : n ≤ 549755813888) (hbase : base ≤ w.heap.size) :
    ∃ v' w', (Builtin.append_ #[22, 3] ty #[v, .int .i64 32]).run Tryd.prog w = .ok v' w' ∧ OB w' base v' (n + 32) (joinB f (fun _ => 0) n) ∧ w.grownBy w' v.ownBlock ∧ (∀ p, w'.frozen? p = w.frozen? p) := by
  obtain ⟨i, hi, hz0, hz1, hz2⟩ := info_parts info8
  have ht := Tryd.underlying22
  have htn := Tryd.underlying3
  have hw : IntKind.i64.wrap (32 : Int) = 32 := by decide
  rcases hown.2 with ⟨rfl, rfl⟩ | ⟨g, cap, cur, rfl, hbg, hg, hnc, hcm, hcs, htake⟩
  · have hr := Lib.run_append_nil_zeros (P := Tryd.prog) w 22 3 ty 5 i (.int .u8 0) .i64 .i64 ht htn hi hz0 32 (by omega) (by rw [hz1]; omega) (by omega) (by rw [hz2]; omega)
    have hgr := own_grown (w := w) (base := base) (n := 0) (f := f) 0 32 (by omega) hbase (fun _ => 0) (Value.ownBlock (.slice none 0 0))
    rw [zeros_ne] at hr
    rw [show (bl f 0).toArray ++ (bl (fun _ => 0) 32).toArray = (bl (fun _ => 0) 32).toArray by simp [bl], Nat.zero_add] at hgr
    exact ⟨_, _, hr, hgr.1, hgr.2.1, hgr.2.2⟩
  · by_cases hroom : n + 32 ≤ cap
    · have hfit : n + (bl (fun _ => 0) 32).length ≤ cur.size := by rw [bl_len, hcs]; omega
      have hst := run_storeCells_at Tryd.prog g n 5 (bl (fun _ => 0) 32) 0 cur w hg (by simpa using hfit) (bl_one _ _)
      simp only [Nat.add_zero] at hst
      have hb48 : ¬ (281474976710656 < (32 : Int) * (i.bytes : Int)) := by rw [hz2]; omega
      refine ⟨.slice (some ⟨g, 0, none⟩) (n + 32) cap, w.setRow g (cur.toList.take n ++ bl (fun _ => 0) 32 ++ cur.toList.drop (n + (bl (fun _ => 0) 32).length)).toArray, ?_, ⟨by rw [bl_len, Nat.mul_one], .inr ⟨g, cap, _, rfl, hbg, setRow_heap w g cur _ _ _ hg, hroom, hcm, ?_, ?_⟩⟩, ⟨rfl, rfl, rfl, by simp, fun k _ hk => setRow_other w g k _ (fun e => hk (by simp [Value.ownBlock, e]))⟩, frozen_setRow _ _ _⟩
      · simp [Builtin.append_, run_underlying ht, run_underlying htn, sizeOf, typeInfo, zeroValue, hi, hz0, hz1, asInt, asIntOf, hw, hb48, hroom, Addr.add_lit, zeros_ne, hst]
      · simp only [List.size_toArray, List.length_append, List.length_take, List.length_drop, Array.length_toList, bl_len]
        omega
      · rw [Nat.mul_one] at htake
        rw [htake, bl_join, Nat.mul_one]
        have := List.take_left (l₁ := bl (joinB f (fun _ => 0) n) (n + 32)) (l₂ := cur.toList.drop (n + (bl (fun _ => 0) 32).length))
        rwa [bl_len] at this
    · have holds : ∀ j u, (bl f n)[j]? = some u → w.cell? ((⟨g, 0, none⟩ : Addr).add j) = some u := World.ownsRow.cells hown (g := g) rfl
      have hold : (Builtin.firstCells i.size n (.slice (some ⟨g, 0, none⟩) n cap)).run Tryd.prog w.drew = .ok (bl f n).toArray w.drew := run_firstCells_some w.drew i.size n ⟨g, 0, none⟩ n cap (bl f n) (by rw [bl_len, hz1, Nat.mul_one]) (by simpa using holds)
      rw [hz1] at hold
      have hb48 : ¬ (281474976710656 < (32 : Int) * (i.bytes : Int)) := by rw [hz2]; omega
      have hfit : Builtin.nextslicecap (n + 32) cap * i.bytes ≤ 281474976710656 := growslice_fits (by omega) (by rw [hz2]; omega)
      have h48' : ¬ (281474976710656 < Builtin.nextslicecap (n + 32) cap * i.bytes) := by omega
      have h63' : ¬ (9223372036854775807 < ((n : Int) + max 32 0)) := by omega
      have hgr := own_grown (w := w) (base := base) (n := n) (f := f) cap 32 (by omega) hbase (fun _ => 0) (Value.ownBlock (.slice (some ⟨g, 0, none⟩) n cap))
      refine ⟨_, _, ?_, hgr.1, hgr.2.1, hgr.2.2⟩
      simp [Builtin.append_, run_underlying ht, run_underlying htn, sizeOf, typeInfo, zeroValue, hi, hz0, hz1, asInt, asIntOf, hw, hb48, hroom, h63', h48', Question.forced, hold, newRow, grownCap, zeros_ne]
      congr 2
      apply Array.ext'
      simp [List.append_assoc]
/-- the low bits of a number of whatever sign -/
theorem and_low (x : Int) (i : Nat) (hi : i ≤ 62) : bits .and .i64 x (2 ^ i - 1) = x % 2 ^ i := by
  have hpos : 0 < 2 ^ i := Nat.two_pow_pos i
  have hdvd : (2 : Nat) ^ i ∣ 2 ^ 64 := Nat.pow_dvd_pow 2 (by omega)
  have hle : (2 : Nat) ^ i ≤ 2 ^ 62 := Nat.pow_le_pow_right (by decide) hi
  have e1 : (BitVec.ofInt 64 ((2 : Int) ^ i - 1)).toNat = 2 ^ i - 1 := by
    have c : ((2 : Int) ^ i - 1) = ((2 ^ i - 1 : Nat) : Int) := by rw [Int.natCast_sub hpos]; simp
    rw [c, BitVec.ofInt_natCast, BitVec.toNat_ofNat, Nat.mod_eq_of_lt (by omega)]
  have e2 : ((BitVec.ofInt 64 x).toNat : Int) = x % 18446744073709551616 := by
    rw [BitVec.toNat_ofInt]; omega
  have hd2 : (2 : Int) ^ i ∣ 18446744073709551616 := by
    have t := Int.natCast_dvd_natCast.2 hdvd
    have e64 : ((2 ^ 64 : Nat) : Int) = 18446744073709551616 := by decide
    rw [e64, Int.natCast_pow] at t
    exact t
  unfold bits
  show IntKind.i64.wrap ((BitVec.ofInt 64 x &&& BitVec.ofInt 64 (2 ^ i - 1)).toNat : Int) = _
  rw [BitVec.toNat_and, e1, Nat.and_two_pow_sub_one_eq_mod, IntKind.wrap_i64]
  have h : (((BitVec.ofInt 64 x).toNat % 2 ^ i : Nat) : Int) = x % 2 ^ i := by
    rw [Int.natCast_emod, e2]
    have hp : (((2 : Nat) ^ i : Nat) : Int) = (2 : Int) ^ i := by rw [Int.natCast_pow]; rfl
    rw [hp]
    exact Int.emod_emod_of_dvd x hd2
  rw [h]
  have b0 : 0 ≤ x % 2 ^ i := Int.emod_nonneg _ (by have : (0:Int) < 2 ^ i := Int.pow_pos (by omega); omega)
  have b1 : x % 2 ^ i < 2 ^ i := Int.emod_lt_of_pos _ (Int.pow_pos (by omega))
  have b2 : (2 : Int) ^ i ≤ 4611686018427387904 := by
    have t := Int.ofNat_le.2 hle
    have e62 : ((2 ^ 62 : Nat) : Int) = 4611686018427387904 := by decide
    rw [e62, Int.natCast_pow] at t
    exact t
  omega
theorem and7 (k : Nat) : bits .and .i64 (k : Int) 7 = ((k % 8 : Nat) : Int) := by
  rw [show (7 : Int) = 2 ^ 3 - 1 from by decide, and_low _ 3 (by omega)]
  omega
theorem and1_8 {a : Nat} (ha : a < 256) : bits .and .u8 (a : Int) 1 = ((a % 2 : Nat) : Int) := by
  have := u8_and_nat a 1 ha (by omega)
  rw [show ((1 : Nat) : Int) = 1 from rfl] at this
  rw [this, show (1 : Nat) = 2 ^ 1 - 1 from rfl, Nat.and_two_pow_sub_one_eq_mod]
theorem bit_nat (x i : Nat) : x / 2 ^ i % 2 = (x.testBit i).toNat := (Nat.toNat_testBit x i).symm
theorem flip8 (b : Bool) : bits .xor .u8 (b.toNat : Int) 1 = (((!b).toNat : Nat) : Int) := by cases b <;> decide
def pwV : Array Value := (pw.map fun p => Value.int .i64 (p : Nat)).toArray
theorem pwV_at {m : Nat} (h : m < 15) : pwV[m]? = some (.int .i64 (pw.getD m 0 : Nat)) := by
  unfold pwV
  rw [List.getElem?_toArray, List.getElem?_map, List.getD_eq_getElem?_getD]
  have : m < pw.length := h
  rw [List.getElem?_eq_getElem this]
  rfl
set_option maxRecDepth 100000 in
set_option maxHeartbeats 8000000 in
theorem lsum_c {n c : Nat} {ao : Option Addr} {f : Nat → Nat} {w : World} (hf : ∀ i, f i < 256) (hB : By w ao n f) (hn : n ≤ 1048576) :
    Calls Tryd.prog 9 #[.slice ao n c] w fun e w' => e = .returned (.int .u32 (sumB f n : Nat)) ∧ Made w.heap.size w w' := by
  have HB := hid hB; have HF := hid hf
  obtain ⟨N, eN⟩ : ∃ N, 8 * n = N := ⟨_, rfl⟩
  have eN2 : (8 : Int) * (n : Int) = (N : Int) := by omega
  have EN := hid eN
  have lN : N ≤ 8388608 := by omega
  clear hB hf eN
  go_enter Tryd.func9, Tryd.ntmps9
  go_wp2_with fail
  go_loopg [3, 16] N (fun g v i wx => ∃ k : Nat, k + g = N ∧ i = .int .i64 (k : Nat) ∧ Hid (OB wx w.heap.size v k (fun j => (bitOf f j).toNat)) ∧ Hid (Made w.heap.size w wx))
  case atStart => exact ⟨0, by omega, by first | rfl | trivial, OB.nil _ _ _, Made.rfl_ _ _⟩
  case round =>
    obtain ⟨k, hk, rfl, HO, HM⟩ := hrel
    by_cases hlt : k < N
    · have hkn : k / 8 < n := by have := EN.out; omega
      obtain ⟨b, off, rfl, hc⟩ := (HB.out.kept HM.out) (by omega)
      have c0 := hc (k / 8) hkn
      obtain ⟨q, eq⟩ : ∃ q, k / 8 = q := ⟨_, rfl⟩
      obtain ⟨t, et⟩ : ∃ t, k % 8 = t := ⟨_, rfl⟩
      have a7 := and7 k
      have d8 : (k : Int) / 8 = (q : Int) := by omega
      obtain ⟨x, ex⟩ : ∃ x, f q = x := ⟨_, rfl⟩
      have lx : x < 256 := by rw [← ex]; exact HF.out q
      rw [et] at a7
      rw [eq] at c0 hkn
      rw [ex] at c0
      have d1 := div_cast x t
      obtain ⟨y, ey⟩ : ∃ y, x / 2 ^ t = y := ⟨_, rfl⟩
      have ly : y < 256 := by rw [← ey]; exact Nat.lt_of_le_of_lt (Nat.div_le_self _ _) lx
      have a1 := and1_8 ly
      obtain ⟨z, ez⟩ : ∃ z, y % 2 = z := ⟨_, rfl⟩
      rw [ez] at a1
      rw [ey] at d1
      have HZ : Hid (z = (bitOf f k).toNat) := by
        unfold Hid bitOf
        rw [eq, et, ex, ← bit_nat, ey, ez]
      have lt8 : t < 8 := by omega
      clear hc eq et ex ey ez
      obtain ⟨W, eW⟩ : ∃ W, W = wr.alloc (.cells #[Value.int .u8 (z : Nat)] 5) := ⟨_, rfl⟩
      have M3 : Made wr.heap.size wr W := by rw [eW]; exact (Made.rfl_ _ _).cells (Nat.le_refl _) _ _
      have B3 : By W (some ⟨wr.heap.size, 0, none⟩) 1 (fun _ => z) := by rw [eW]; exact By.one wr z
      have hs3 : w.heap.size ≤ W.heap.size := Nat.le_trans HM.out.1.size M3.1.size
      obtain ⟨v4, w4, hr, hO, hg, hz⟩ := append_by (c := 1) 22 (HO.out.kept M3) B3 (by omega) hs3
      have HR2 := hid hr
      have M4 : Hid (Made w.heap.size w w4) := (HM.out.then_ (M3.low HM.out.1.size)).app hg hz hs3 (fun b hb => ((HO.out.kept M3).lt b hb).1)
      have O4 : Hid (OB w4 w.heap.size v4 (k + 1) (fun j => (bitOf f j).toNat)) := by
        refine hO.congr fun i hi => ?_
        unfold joinB
        by_cases h : i < k
        · rw [if_pos h]
        · rw [if_neg h, show i = k by omega, HZ.out]
      rw [eW] at HR2
      clear hr hO hg hz M3 B3 hs3 eW HZ
      go_wp2_with (at_builtin; refine Lib.wpList_append_run _ rfl _ _ _ _ rfl _ _ rfl rfl _ _ HR2.out ?_)
      go_roundg (N - k - 1)
      case rel => exact ⟨k + 1, by omega, by go_num, O4.out, M4.out⟩
      case measure => omega
    · have e : k = N := by omega
      subst e
      have hs := HM.out.1.size
      obtain ⟨v4, w4, hr, hO, hg, hz⟩ := append_zeros 22 HO.out (by omega) hs
      have HR2 := hid hr
      have M4 : Hid (Made w.heap.size w w4) := HM.out.app hg hz hs (fun b hb => (HO.out.lt b hb).1)
      have O4 : Hid (OB w4 w.heap.size v4 (k + 32) (fun j => (dataB f n j).toNat)) := by
        refine hO.congr fun i hi => ?_
        unfold joinB dataB
        rw [EN.out]
        by_cases h : i < k
        · rw [if_pos h, decide_eq_true h]; rfl
        · rw [if_neg h, decide_eq_false h]; rfl
      obtain ⟨_, cv, rfl, hcv, hcv2, hsh⟩ := hO.shape
      obtain ⟨gv, rfl, hgv, _⟩ := hsh (by omega)
      have HGV := hid hgv
      clear hr hO hg hz hs hcv hcv2 hsh hgv HO HM
      go_wp2_with (at_builtin; refine Lib.wpList_append_run _ rfl _ _ _ _ rfl _ _ rfl rfl _ _ HR2.out ?_)
      clear HR2
      go_loopg [34] 32 (fun g i wx => ∃ m : Nat, m + g = 32 ∧ i = .int .i64 (m : Nat) ∧ Hid (OB wx w.heap.size (.slice (some ⟨gv, 0, none⟩) (k + 32) cv) (k + 32) (fun j => (dataB f n j ^^ decide (j < m)).toNat)) ∧ Hid (Made w.heap.size w wx))
      case atStart => exact ⟨0, by omega, by first | rfl | trivial, O4.out.congr fun i _ => by rw [decide_eq_false (by omega)]; cases dataB f n i <;> rfl, M4.out⟩
      case round =>
        obtain ⟨m, hm, rfl, HO, HM⟩ := hrel
        by_cases hlt : m < 32
        · obtain ⟨_, _, e0, hc⟩ := HO.out.by_ (by omega)
          cases e0
          obtain ⟨_, _, e0, _, _, h3⟩ := HO.out.shape
          cases e0
          obtain ⟨_, e1, _, hgs, hfz⟩ := h3 (by omega)
          cases e1
          have c0 := hc m (by omega)
          have z0 := hfz m
          rw [Nat.zero_add] at c0
          obtain ⟨x, ex⟩ : ∃ x, (dataB f n m ^^ decide (m < m)) = x := ⟨_, rfl⟩
          simp only [ex] at c0
          have x1 := flip8 x
          obtain ⟨y, ey⟩ : ∃ y, x.toNat = y := ⟨_, rfl⟩
          obtain ⟨y2, ey2⟩ : ∃ y, (!x).toNat = y := ⟨_, rfl⟩
          rw [ey] at x1 c0
          rw [ey2] at x1
          have HN := hid ((HO.out.set (i := m) (by omega) y2).congr (g := fun j => (dataB f n j ^^ decide (j < m + 1)).toNat) fun j hj => by
            by_cases e : j = m
            · subst e
              rw [if_pos rfl, ← ey2, ← ex, decide_eq_true (show j < j + 1 by omega), decide_eq_false (show ¬ j < j by omega)]
              cases dataB f n j <;> rfl
            · rw [if_neg e]
              congr 2
              simp only [decide_eq_decide]
              omega)
          have HNM := hid (HM.out.put (p := ⟨gv, m, none⟩) HGV.out (.int .u8 (y2 : Nat)))
          clear hc hfz ex ey ey2 hgs h3
          go_wp2_with fail
          go_roundg (32 - m - 1)
          case rel => exact ⟨m + 1, by omega, by go_num, HN.out, HNM.out⟩
          case measure => omega
        · have e : m = 32 := by omega
          subst e
          have O5 : Hid (OB wr w.heap.size (.slice (some ⟨gv, 0, none⟩) (k + 32) cv) (k + 32) (fun j => (startB f n j).toNat)) := HO.out
          have M5 := HM
          clear HO HM O4 M4
          go_wp2_with fail
          obtain ⟨PG, eP⟩ : ∃ PG, wr.heap.size = PG := ⟨_, rfl⟩
          obtain ⟨W, eW⟩ : ∃ W, W = wr.alloc (.cells pwV 3) := ⟨_, rfl⟩
          have hgvP : gv < PG := by
            obtain ⟨_, _, e0, _, _, h3⟩ := O5.out.shape
            cases e0
            obtain ⟨_, e1, _, hgs, _⟩ := h3 (by omega)
            cases e1
            rw [← eP]; exact hgs
          have MA : Made wr.heap.size wr W := by rw [eW]; exact (Made.rfl_ _ _).cells (Nat.le_refl _) _ _
          have O6 : Hid (OB W w.heap.size (.slice (some ⟨gv, 0, none⟩) (k + 32) cv) (k + 32) (fun j => (startB f n j).toNat)) := O5.out.kept MA
          have M6 : Hid (Made w.heap.size w W) := M5.out.then_ (MA.low M5.out.1.size)
          have P6 : Hid (Has W PG 3 pwV) := by unfold Hid; rw [eW, ← eP]; exact has_new _ _ _
          have hcv3 : k + 32 ≤ cv := by
            obtain ⟨_, _, e0, h, _⟩ := O5.out.shape
            cases e0
            exact h
          have HCV := hid hcv3
          have eW2 : wr.alloc (.cells #[.int .i64 32, .int .i64 26, .int .i64 23, .int .i64 22, .int .i64 16, .int .i64 12, .int .i64 11, .int .i64 10, .int .i64 8, .int .i64 7, .int .i64 5, .int .i64 4, .int .i64 2, .int .i64 1, .int .i64 0] 3) = W := eW.symm
          rw [eW2, eP]
          clear eW eW2 eP MA O5 M5 hcv3
          go_loopg [48] k (fun g i wx => ∃ a : Nat, a + g = k ∧ i = .int .i64 (a : Nat) ∧ Hid (OB wx w.heap.size (.slice (some ⟨gv, 0, none⟩) (k + 32) cv) (k + 32) (fun j => (divB (startB f n) a j).toNat)) ∧ Hid (Has wx PG 3 pwV) ∧ Hid (Made w.heap.size w wx))
          case atStart => exact ⟨0, by omega, by first | rfl | trivial, O6.out, P6.out, M6.out⟩
          case round =>
            obtain ⟨a, ha, rfl, HO, HP, HM⟩ := hrel
            by_cases hlt : a < k
            · obtain ⟨_, _, e0, hc⟩ := HO.out.by_ (by omega)
              cases e0
              have c0 := hc a (by omega)
              rw [Nat.zero_add] at c0
              obtain ⟨B, eB⟩ : ∃ B, divB (startB f n) a = B := ⟨_, rfl⟩
              have HD : Hid (divB (startB f n) (a + 1) = if B a = true then flips B a 15 else B) := by
                unfold Hid; rw [← eB]; rfl
              simp only [eB] at c0 HO
              clear hc eB
              cases hBa : B a with
              | false =>
                rw [hBa] at c0
                have HD2 : Hid (divB (startB f n) (a + 1) = B) := by unfold Hid; rw [HD.out, hBa]; rfl
                have c0 : wr.cell? ⟨gv, a, none⟩ = some (.int .u8 0) := c0
                clear HD hBa
                go_wp2_with fail
                go_roundg (k - a - 1)
                case rel => exact ⟨a + 1, by omega, by go_num, by rw [HD2.out]; exact HO.out, HP.out, HM.out⟩
                case measure => omega
              | true =>
                rw [hBa] at c0
                have HD2 : Hid (divB (startB f n) (a + 1) = flips B a 15) := by unfold Hid; rw [HD.out, hBa]; rfl
                have c0 : wr.cell? ⟨gv, a, none⟩ = some (.int .u8 1) := c0
                have HO2 : Hid (OB wr w.heap.size (.slice (some ⟨gv, 0, none⟩) (k + 32) cv) (k + 32) (fun j => (flips B a 0 j).toNat)) := HO.out
                have HP2 := HP
                have HM2 := HM
                clear HD hBa HO HP HM
                go_wp2_with fail
                clear c0
                go_loopg [58] 15 (fun g i wx => ∃ m : Nat, m + g = 15 ∧ i = .int .i64 (m : Nat) ∧ Hid (OB wx w.heap.size (.slice (some ⟨gv, 0, none⟩) (k + 32) cv) (k + 32) (fun j => (flips B a m j).toNat)) ∧ Hid (Has wx PG 3 pwV) ∧ Hid (Made w.heap.size w wx))
                case atStart => exact ⟨0, by omega, by first | rfl | trivial, HO2.out, HP2.out, HM2.out⟩
                case round =>
                  obtain ⟨m, hm, rfl, HO, HP, HM⟩ := hrel
                  by_cases hltm : m < 15
                  · have p0 := HP.out.at_ m
                    rw [pwV_at hltm] at p0
                    obtain ⟨p, ep⟩ : ∃ p, pw.getD m 0 = p := ⟨_, rfl⟩
                    have lp : p ≤ 32 := by rw [← ep]; exact pw_le m
                    rw [ep] at p0
                    obtain ⟨s, es⟩ : ∃ s, a + 32 - p = s := ⟨_, rfl⟩
                    have es2 : (a : Int) + 32 - (p : Int) = (s : Int) := by omega
                    have ls : s < k + 32 := by omega
                    obtain ⟨_, _, e0, hc⟩ := HO.out.by_ (by omega)
                    cases e0
                    obtain ⟨_, _, e0, _, _, h3⟩ := HO.out.shape
                    cases e0
                    obtain ⟨_, e1, _, hgs, hfz⟩ := h3 (by omega)
                    cases e1
                    have c0 := hc s ls
                    have z0 := hfz s
                    rw [Nat.zero_add] at c0
                    obtain ⟨x, ex⟩ : ∃ x, flips B a m s = x := ⟨_, rfl⟩
                    simp only [ex] at c0
                    have x1 := flip8 x
                    obtain ⟨y, ey⟩ : ∃ y, x.toNat = y := ⟨_, rfl⟩
                    obtain ⟨y2, ey2⟩ : ∃ y, (!x).toNat = y := ⟨_, rfl⟩
                    rw [ey] at x1 c0
                    rw [ey2] at x1
                    have HN := hid ((HO.out.set (i := s) ls y2).congr (g := fun j => (flips B a (m + 1) j).toNat) fun j hj => by
                      simp only [flips]
                      rw [ep, es]
                      by_cases e : j = s
                      · subst e
                        rw [if_pos rfl, if_pos rfl, ← ey2, ← ex]
                      · rw [if_neg e, if_neg e])
                    have HNP := hid (HP.out.other ⟨gv, s, none⟩ (by show PG ≠ gv; omega) (.int .u8 (y2 : Nat)))
                    have HNM := hid (HM.out.put (p := ⟨gv, s, none⟩) HGV.out (.int .u8 (y2 : Nat)))
                    clear hc hfz ex ey ey2 hgs h3 ep es
                    go_wp2_with fail
                    go_roundg (15 - m - 1)
                    case rel => exact ⟨m + 1, by omega, by go_num, HN.out, HNP.out, HNM.out⟩
                    case measure => omega
                  · have e : m = 15 := by omega
                    subst e
                    go_wp2_with fail
                    go_roundg (k - a - 1)
                    case rel => exact ⟨a + 1, by omega, by go_num, by rw [HD2.out]; exact HO.out, HP.out, HM.out⟩
                    case measure => omega
            · have e : a = k := by omega
              subst e
              obtain ⟨_, _, e0, hc⟩ := HO.out.by_ (by omega)
              cases e0
              have HC : Hid (∀ m, m < 32 → wr.cell? ⟨gv, a + m, none⟩ = some (.int .u8 ((divB (startB f n) a (a + m)).toNat : Nat))) := fun m hm => by
                have := hc (a + m) (by omega)
                rwa [Nat.zero_add] at this
              have lcv : a + 32 ≤ cv := HCV.out
              have HE : Hid (outB (fun j => divB (startB f n) a (a + j)) 32 = sumB f n) := by
                have := div_sum HF.out n
                rw [EN.out] at this
                exact this
              clear hc HO HP
              go_wp2_with fail
              go_loopg [10, 79] 32 (fun g r i wx => ∃ m : Nat, m + g = 32 ∧ i = .int .i64 (m : Nat) ∧ r = .int .u32 (outB (fun j => divB (startB f n) a (a + j)) m : Nat) ∧ Hid (wr = wx))
              case atStart => exact ⟨0, by omega, by first | rfl | trivial, rfl, rfl⟩
              case round =>
                obtain ⟨m, hm, rfl, rfl, HW⟩ := hrel
                have hW := HW.out
                subst hW
                obtain ⟨r, er⟩ : ∃ r, outB (fun j => divB (startB f n) a (a + j)) m = r := ⟨_, rfl⟩
                have lr0 : r < 2 ^ m := by rw [← er]; exact out_lt _ m
                rw [er]
                by_cases hltm : m < 32
                · have c0 := HC.out m hltm
                  obtain ⟨x, ex⟩ : ∃ x, divB (startB f n) a (a + m) = x := ⟨_, rfl⟩
                  rw [ex] at c0
                  have x1 := flip8 x
                  have HN : Hid (outB (fun j => divB (startB f n) a (a + j)) (m + 1) = r ||| ((!x).toNat <<< m)) := by
                    unfold Hid
                    show outB (fun j => divB (startB f n) a (a + j)) m ||| ((!divB (startB f n) a (a + m)).toNat <<< m) = _
                    rw [er, ex]
                  obtain ⟨y, ey⟩ : ∃ y, x.toNat = y := ⟨_, rfl⟩
                  obtain ⟨y2, ey2⟩ : ∃ y, (!x).toNat = y := ⟨_, rfl⟩
                  have ly2 : y2 ≤ 1 := by rw [← ey2]; cases x <;> decide
                  rw [ey] at x1 c0
                  rw [ey2] at x1 HN
                  have lr : r < 4294967296 := Nat.lt_of_lt_of_le lr0 (Nat.pow_le_pow_right (n := 2) (by omega) (show m ≤ 32 by omega))
                  have ls : y2 <<< m < 4294967296 := by
                    rw [Nat.shiftLeft_eq]
                    have h1 : y2 * 2 ^ m ≤ 1 * 2 ^ m := Nat.mul_le_mul_right _ ly2
                    have h2 : 2 ^ m ≤ 2 ^ 31 := Nat.pow_le_pow_right (n := 2) (by omega) (by omega)
                    omega
                  have o1 := or32 lr ls
                  have s1 : (y2 : Int) * 2 ^ m % 4294967296 = ((y2 <<< m : Nat) : Int) := by
                    have h2 : (y2 : Int) * 2 ^ m = ((y2 * 2 ^ m : Nat) : Int) := by rw [Int.natCast_mul, Int.natCast_pow]; rfl
                    rw [h2, Nat.shiftLeft_eq]
                    rw [Nat.shiftLeft_eq] at ls
                    omega
                  have w1 : (y2 : Int) % 4294967296 = (y2 : Int) := by omega
                  obtain ⟨u, eu⟩ : ∃ u, y2 <<< m = u := ⟨_, rfl⟩
                  rw [eu] at s1 o1 HN
                  clear er ex ey ey2 eu lr0
                  go_wp2_with fail
                  go_roundg (32 - m - 1)
                  case rel => exact ⟨m + 1, by omega, by go_num, by rw [HN.out], rfl⟩
                  case measure => omega
                · have e : m = 32 := by omega
                  subst e
                  have HR : Hid (r = sumB f n) := by unfold Hid; rw [← er, HE.out]
                  clear er lr0
                  go_wp2_with fail
                  go_ret
                  exact ⟨ret_i (by rw [HR.out]), HM.out⟩
end Go.Proofs.YtckhhghbpblpcaaDoor.Fx
