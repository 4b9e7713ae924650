/- Contracts of package crc: checksums. -/
import Derived.Test.YtfkggnlefblniaaDoorMem
import Derived.Test.YtfkggnlefblniaaDoorCrQ
import Derived.Laws.BitsAllLaws
import Derived.Laws.BytesString
import Derived.Lib.LaidTab
import Derived.Deep.DeepCutAuto
namespace Go.Proofs.YtfkggnlefblniaaDoor.Fx
open Go.ChangeShapes Go.WideShapes Go.ChangeAt Go.RowKit
set_option linter.unusedVariables false

theorem cret_i {k : IntKind} {a b : Int} (h : a = b) : Ending.returned (.int k a) = .returned (.int k b) := by rw [h]
/-- bytes that can be read -/
def By (w : World) (ao : Option Addr) (n : Nat) (f : Nat → Nat) : Prop := 0 < n → ∃ b off, ao = some ⟨b, off, none⟩ ∧ ∀ i, i < n → w.cell? ⟨b, off + i, none⟩ = some (.int .u8 (f i : Nat))
/-- the table lies there -/
def Tab (w : World) : Prop := ∀ i, i < 16 → w.cell? ⟨0, i, none⟩ = some (.int .u32 (tabC.getD i 0 : Nat))
theorem xor32 {a b : Nat} (ha : a < 4294967296) (hb : b < 4294967296) : bits .xor .u32 (a : Int) (b : Int) = ((a ^^^ b : Nat) : Int) := u32_xor_nat a b ha hb
theorem cand15 {a : Nat} (ha : a < 4294967296) : bits .and .u32 (a : Int) 15 = ((a % 16 : Nat) : Int) := by
  have := u32_and_nat a 15 ha (by omega)
  rw [show ((15 : Nat) : Int) = 15 from rfl] at this
  rw [this, show (15 : Nat) = 2 ^ 4 - 1 from rfl, Nat.and_two_pow_sub_one_eq_mod]
set_option maxRecDepth 100000 in
set_option maxHeartbeats 2000000 in
theorem cadd_c {s n c : Nat} {ao : Option Addr} {f : Nat → Nat} {w : World} (hs : s < 4294967296) (hf : ∀ i, f i < 256) (hT : Tab w) (hB : By w ao n f) (hn : n ≤ 1099511627776) :
    Calls Tryd.prog 29 #[.int .u32 (s : Nat), .slice ao n c] w fun e w' => e = .returned (.int .u32 (addB s f n : Nat)) ∧ w = w' := by
  have HB := hid hB; have HT := hid hT; have HF := hid hf
  have e0 : bits .xor .u32 IntKind.u32.max (s : Int) = ((s ^^^ ones : Nat) : Int) := by
    rw [show IntKind.u32.max = ((ones : Nat) : Int) from by decide, xor32 ones_lt hs, Nat.xor_comm]
  have r0 : s ^^^ ones < 4294967296 := xor_lt hs ones_lt
  obtain ⟨R0, e1⟩ : ∃ R, s ^^^ ones = R := ⟨_, rfl⟩
  rw [e1] at e0 r0
  have HA : Hid (addB s f n = reg f R0 n ^^^ ones) := by unfold Hid addB; rw [e1]
  clear hB hT hf hs e1
  go_enter Tryd.func29, Tryd.ntmps29
  go_wp2_with fail
  go_loopg [5, 12] n (fun g r i wx => ∃ k : Nat, k + g = n ∧ i = .int .i64 (k : Nat) ∧ r = .int .u32 (reg f R0 k : Nat) ∧ Hid (w = wx))
  case atStart => exact ⟨0, by omega, by first | rfl | trivial, rfl, rfl⟩
  case round =>
    obtain ⟨k, hk, rfl, rfl, HW⟩ := hrel
    have hW := HW.out
    subst hW
    obtain ⟨r, er⟩ : ∃ r, reg f R0 k = r := ⟨_, rfl⟩
    have lr : r < 4294967296 := by rw [← er]; exact reg_lt HF.out r0 k
    rw [er]
    by_cases hlt : k < n
    · obtain ⟨b, off, rfl, hc⟩ := HB.out (by omega)
      have c0 := hc k hlt
      obtain ⟨x, ex⟩ : ∃ x, f k = x := ⟨_, rfl⟩
      have lx : x < 256 := by rw [← ex]; exact HF.out k
      rw [ex] at c0
      clear hc
      have wx : (x : Int) % 4294967296 = (x : Int) := by omega
      have x1 := xor32 lr (show x < 4294967296 by omega)
      obtain ⟨q, eq⟩ : ∃ q, r ^^^ x = q := ⟨_, rfl⟩
      have lq : q < 4294967296 := by rw [← eq]; exact xor_lt lr (by omega)
      rw [eq] at x1
      have a1 := cand15 lq
      obtain ⟨l, el⟩ : ∃ l, q % 16 = l := ⟨_, rfl⟩
      have ll : l < 16 := by omega
      rw [el] at a1
      obtain ⟨h, eh⟩ : ∃ h, q / 16 = h := ⟨_, rfl⟩
      have lh : h < 4294967296 := by omega
      have d1 : (q : Int) / 16 = (h : Int) := by omega
      have t1 := HT.out l ll
      obtain ⟨T, eT⟩ : ∃ T, tabC.getD l 0 = T := ⟨_, rfl⟩
      have lT : T < 4294967296 := by rw [← eT]; exact ctab_lt l
      rw [eT] at t1
      have x2 := xor32 lh lT
      obtain ⟨p, ep⟩ : ∃ p, h ^^^ T = p := ⟨_, rfl⟩
      have lp : p < 4294967296 := by rw [← ep]; exact xor_lt lh lT
      rw [ep] at x2
      have a2 := cand15 lp
      obtain ⟨m, em⟩ : ∃ m, p % 16 = m := ⟨_, rfl⟩
      have lm : m < 16 := by omega
      rw [em] at a2
      obtain ⟨j, ej⟩ : ∃ j, p / 16 = j := ⟨_, rfl⟩
      have lj : j < 4294967296 := by omega
      have d2 : (p : Int) / 16 = (j : Int) := by omega
      have t2 := HT.out m lm
      obtain ⟨U, eU⟩ : ∃ U, tabC.getD m 0 = U := ⟨_, rfl⟩
      have lU : U < 4294967296 := by rw [← eU]; exact ctab_lt m
      rw [eU] at t2
      have x3 := xor32 lj lU
      have HN : Hid (reg f R0 (k + 1) = j ^^^ U) := by
        unfold Hid
        show byteIn (reg f R0 k) (f k) = _
        rw [er, ex, byteIn_tab, eq, el, eh, eT, ep, em, ej, eU]
      clear er ex eq el eh eT ep em ej eU
      go_wp2_with fail
      go_roundg (n - k - 1)
      case rel => exact ⟨k + 1, by omega, by go_num, by rw [HN.out], rfl⟩
      case measure => omega
    · have e : k = n := by omega
      subst e
      have x9 : bits .xor .u32 IntKind.u32.max (r : Int) = ((r ^^^ ones : Nat) : Int) := by
        rw [show IntKind.u32.max = ((ones : Nat) : Int) from by decide, xor32 ones_lt lr, Nat.xor_comm]
      have HA2 : Hid (r ^^^ ones = addB s f k) := by unfold Hid; rw [HA.out, er]
      clear er
      go_wp2_with fail
      go_ret
      first | exact ⟨rfl, rfl⟩ | exact ⟨cret_i (by rw [HA2.out]), rfl⟩
end Go.Proofs.YtfkggnlefblniaaDoor.Fx
