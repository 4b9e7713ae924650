/- Package pack: a writer and a reader in memory; the writer's calls. -/
import Derived.Test.YtfkggnlefblniaaDoorCrE
namespace Go.Proofs.YtfkggnlefblniaaDoor.Fx
open Go.ChangeShapes Go.WideShapes Go.ChangeAt Go.RowKit
set_option linter.unusedVariables false

/-- byte k of a number -/
def byteZ (x : Int) (k : Nat) : Nat := (x / 256 ^ k % 256).toNat
theorem byteZ_lt (x : Int) (k : Nat) : byteZ x k < 256 := by
  unfold byteZ
  have := Int.emod_lt_of_pos (x / 256 ^ k) (show (0 : Int) < 256 by omega)
  have := Int.emod_nonneg (x / 256 ^ k) (show (256 : Int) ≠ 0 by omega)
  omega
theorem byteZ_is (x : Int) (k : Nat) {q : Int} (h : x / 256 ^ k = q) : q % 256 = (byteZ x k : Int) := by
  unfold byteZ
  rw [h]
  have := Int.emod_nonneg q (show (256 : Int) ≠ 0 by omega)
  omega
theorem div256 (x : Int) (k : Nat) {q : Int} (h : x / 256 ^ k = q) : q / 256 = x / 256 ^ (k + 1) := by
  rw [← h, Int.pow_succ, Int.ediv_ediv_of_nonneg (Int.le_of_lt (Int.pow_pos (by omega)))]
theorem div256_rg (x : Int) (k : Nat) (h1 : -9223372036854775808 ≤ x) (h2 : x ≤ 9223372036854775807) : -9223372036854775808 ≤ x / 256 ^ k ∧ x / 256 ^ k ≤ 9223372036854775807 := by
  have hp : (1 : Int) ≤ 256 ^ k := by
    have := Int.pow_pos (n := 256) (m := k) (by omega)
    omega
  constructor
  · rw [Int.le_ediv_iff_mul_le (by omega)]
    have : (-9223372036854775808 : Int) * 256 ^ k ≤ -9223372036854775808 * 1 := Int.mul_le_mul_of_nonpos_left (by omega) hp
    omega
  · have : x / 256 ^ k < 9223372036854775808 := by
      rw [Int.ediv_lt_iff_lt_mul (by omega)]
      have : (9223372036854775808 : Int) * 1 ≤ 9223372036854775808 * 256 ^ k := Int.mul_le_mul_of_nonneg_left hp (by omega)
      omega
    omega
/-- a writer with these bytes lies in block pb -/
def Wr (w : World) (pb n : Nat) (f : Nat → Nat) : Prop := ∃ v, w.cell? ⟨pb, 0, none⟩ = some v ∧ w.frozen? ⟨pb, 0, none⟩ = false ∧ OB w (pb + 1) v n f
theorem Wr.congr {w : World} {pb n : Nat} {f g : Nat → Nat} (h : Wr w pb n f) (e : ∀ i, i < n → f i = g i) : Wr w pb n g := by
  obtain ⟨v, h1, h2, h3⟩ := h
  exact ⟨v, h1, h2, h3.congr e⟩
theorem Wr.here {w : World} {pb n : Nat} {f : Nat → Nat} (h : Wr w pb n f) : pb < w.heap.size := by
  obtain ⟨v, h1, _⟩ := h
  exact World.block_lt_of_cell? (a := ⟨pb, 0, none⟩) w h1
theorem Wr.kept {w u : World} {pb n : Nat} {f : Nat → Nat} (h : Wr w pb n f) (k : Made w.heap.size w u) : Wr u pb n f := by
  obtain ⟨v, h1, h2, h3⟩ := h
  exact ⟨v, k.reads h1, (k.2 _).trans h2, h3.kept k⟩
/-- the writer's row is laid anew -/
theorem Wr.store {w u : World} {pb n m : Nat} {f g : Nat → Nat} {v : Value} (h : Wr w pb n f) (k : Made (pb + 1) w u) (hO : OB u (pb + 1) v m g) : Wr (u.setCell ⟨pb, 0, none⟩ v) pb m g := by
  obtain ⟨v0, h1, h2, h3⟩ := h
  have hc : u.cell? ⟨pb, 0, none⟩ = some v0 := k.at_ (by show pb < pb + 1; omega) h1
  have hlt : pb < u.heap.size := World.block_lt_of_cell? (a := ⟨pb, 0, none⟩) u hc
  refine ⟨v, ?_, ?_, ?_⟩
  · go_simp
  · rw [World.frozen?_setCell]; exact (k.2 _).trans h2
  · refine own_other hO (p := ⟨pb, 0, none⟩) ?_ v
    intro e
    have := (hO.lt pb e).2
    have := (hO.lt pb e).1
    omega
theorem Wr.new (w : World) (f : Nat → Nat) (t : TypeId) : Wr (w.alloc (.cells #[Value.slice none 0 0] t)) w.heap.size 0 f := by
  have hh := has_new w t #[Value.slice none 0 0]
  exact ⟨.slice none 0 0, by rw [hh.at_ 0]; rfl, hh.free 0, OB.nil _ _ _⟩
set_option maxRecDepth 100000 in
set_option maxHeartbeats 4000000 in
theorem pnum_c {pb n m : Nat} {f : Nat → Nat} {X : Int} {w : World} (hW : Wr w pb n f) (hm : m ≤ 8) (hn : n ≤ 549755813888) (hX1 : -9223372036854775808 ≤ X) (hX2 : X ≤ 9223372036854775807) :
    Calls Tryd.prog 16 #[.pointer (some ⟨pb, 0, none⟩), .int .i64 (m : Nat), .int .i64 X] w fun e w' => e = .returned (.pointer (some ⟨pb, 0, none⟩)) ∧ Wr w' pb (n + m) (joinB f (byteZ X) n) ∧ Made pb w w' := by
  have HW := hid hW
  have hmin : min (m : Int) 8 = (m : Int) := by omega
  have HR := hid (div256_rg X · hX1 hX2)
  clear hW
  go_enter Tryd.func16, Tryd.ntmps16
  go_wp2_with fail
  go_loopg [2, 11] m (fun g x i wr => ∃ k : Nat, k + g = m ∧ i = .int .i64 (k : Nat) ∧ x = .int .i64 (X / 256 ^ k) ∧ Hid (Wr wr pb (n + k) (joinB f (byteZ X) n)) ∧ Hid (Made pb w wr))
  case atStart => exact ⟨0, by omega, by first | rfl | trivial, by simp, HW.out.congr fun i hi => by unfold joinB; rw [if_pos (by omega)], Made.rfl_ _ _⟩
  case round =>
    obtain ⟨k, hk, rfl, rfl, HW2, HM2⟩ := hrel
    obtain ⟨q, eq⟩ : ∃ q, X / 256 ^ k = q := ⟨_, rfl⟩
    have b1 := (HR.out k).1
    have b2 := (HR.out k).2
    rw [eq] at b1 b2
    have hy := byteZ_is X k eq
    have hz := div256 X k eq
    rw [eq]
    by_cases hlt : k < m
    · obtain ⟨y, ey⟩ : ∃ y, byteZ X k = y := ⟨_, rfl⟩
      obtain ⟨z, ez⟩ : ∃ z, X / 256 ^ (k + 1) = z := ⟨_, rfl⟩
      have EY := hid ey; have EZ := hid ez
      rw [ey] at hy
      rw [ez] at hz
      clear ey ez eq
      obtain ⟨v, c0, z0, hO⟩ := HW2.out
      have HO := hid hO
      obtain ⟨W, eW⟩ : ∃ W, W = wr.alloc (.cells #[Value.int .u8 (y : Nat)] 5) := ⟨_, rfl⟩
      have M3 : Made wr.heap.size wr W := by rw [eW]; exact (Made.rfl_ _ _).cells (Nat.le_refl _) _ _
      have B3 : By W (some ⟨wr.heap.size, 0, none⟩) 1 (fun _ => y) := by rw [eW]; exact By.one wr y
      have hp3 : pb + 1 ≤ W.heap.size := Nat.le_trans (World.block_lt_of_cell? (a := ⟨pb, 0, none⟩) wr c0) M3.1.size
      obtain ⟨v4, w4, hr, hO4, hg, hz4⟩ := append_by (c := 1) 22 (HO.out.kept M3) B3 (by omega) hp3
      obtain ⟨ao4, ca4, rfl, _, _, _⟩ := hO4.shape
      have HR2 := hid hr
      have M4 : Made (pb + 1) wr w4 := (M3.low (World.block_lt_of_cell? (a := ⟨pb, 0, none⟩) wr c0)).app hg hz4 hp3 (fun b hb => ((HO.out.kept M3).lt b hb).1)
      have c4 : w4.cell? ⟨pb, 0, none⟩ = some v := M4.at_ (by show pb < pb + 1; omega) c0
      have z4 : w4.frozen? ⟨pb, 0, none⟩ = false := (M4.2 _).trans z0
      have O4 : Hid (Wr (w4.setCell ⟨pb, 0, none⟩ (.slice ao4 (n + k + 1) ca4)) pb (n + (k + 1)) (joinB f (byteZ X) n)) := by
        refine (Wr.store HW2.out M4 hO4).congr fun i hi => ?_
        unfold joinB
        by_cases h : i < n + k
        · rw [if_pos h]
        · rw [if_neg h, if_neg (by omega), show i - n = k by omega, EY.out]
      have M5 : Hid (Made pb w (w4.setCell ⟨pb, 0, none⟩ (.slice ao4 (n + k + 1) ca4))) := (HM2.out.then_ (M4.low (by omega))).put (p := ⟨pb, 0, none⟩) (Nat.le_refl _) _
      have M4h := hid M4
      rw [eW] at HR2
      clear hr hO hg hz4 M3 B3 hp3 M4 hO4 eW
      go_wp2_with (at_builtin; refine Lib.wpList_append_run _ rfl _ _ _ _ rfl _ _ rfl rfl _ _ HR2.out ?_)
      go_roundg (m - k - 1)
      case rel => exact ⟨k + 1, by omega, by go_num, by rw [EZ.out], O4.out, M5.out⟩
      case measure => omega
    · have e : k = m := by omega
      subst e
      clear hy hz eq
      go_wp2_with fail
      go_ret
      exact ⟨rfl, HW2.out, HM2.out⟩
end Go.Proofs.YtfkggnlefblniaaDoor.Fx
