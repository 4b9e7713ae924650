/- Package names: a number's name. -/
import Derived.Test.YtmdhlobonnikcaaDoorCrF
import Derived.Test.YtmdhlobonnikcaaDoorNmP
import Derived.Deep.DeepCutAuto
import Derived.Laws.Strings
namespace Go.Proofs.YtmdhlobonnikcaaDoor.Fx
open Go.ChangeShapes Go.WideShapes Go.ChangeAt Go.RowKit
set_option linter.unusedVariables false

/-- the digits' table lies there -/
def TabN (w : World) : Prop := ∀ i, i < 16 → w.cell? ⟨0, i, none⟩ = some (.int .u8 (hexd i : Nat))
theorem TabN.bel {w u : World} (h : TabN w) (k : Below w.heap.size w u) : TabN u := fun i hi => (k.cell (World.block_lt_of_cell? (a := ⟨0, i, none⟩) w (h i hi))).trans (h i hi)
theorem TabN.here {w : World} (h : TabN w) : 0 < w.heap.size := World.block_lt_of_cell? (a := ⟨0, 0, none⟩) w (h 0 (by omega))
theorem nand15 (k : Nat) : bits .and .i64 (k : Int) 15 = ((k % 16 : Nat) : Int) := by
  rw [show (15 : Int) = 2 ^ 4 - 1 from by decide, cand_low _ 4 (by omega)]
  omega
def ncs (c N k : Nat) : Array Value := ((List.range 17).map fun j => Value.int .u8 ((if j = 0 then c else if k < j then dg 16 N (j - 1) else 0 : Nat) : Int)).toArray
theorem ncs_at (c N k j : Nat) (h : j < 17) : (ncs c N k)[j]? = some (.int .u8 ((if j = 0 then c else if k < j then dg 16 N (j - 1) else 0 : Nat) : Int)) := by simp [ncs, h]
theorem ncs_size (c N k : Nat) : (ncs c N k).size = 17 := by simp [ncs]
theorem ncs_put {c N k v : Nat} (h1 : 1 ≤ k) (h2 : k ≤ 16) (hv : hexd (N / 16 ^ (16 - k) % 16) = v) : (ncs c N k).setIfInBounds k (.int .u8 (v : Nat)) = ncs c N (k - 1) := by
  apply Array.ext
  · rw [Array.size_setIfInBounds, ncs_size, ncs_size]
  · intro j hj1 hj2
    have hj : j < 17 := by rw [ncs_size] at hj2; exact hj2
    apply Option.some.inj
    rw [← Array.getElem?_eq_getElem, ← Array.getElem?_eq_getElem, ncs_at _ _ _ _ hj, Array.getElem?_setIfInBounds]
    by_cases e : k = j
    · subst e
      rw [if_pos rfl, if_pos (by rw [ncs_size]; exact hj), if_neg (by omega), if_pos (by omega)]
      unfold dg
      rw [show 16 - 1 - (k - 1) = 16 - k by omega, hv]
    · rw [if_neg e, ncs_at _ _ _ _ hj]
      by_cases h0 : j = 0
      · rw [if_pos h0, if_pos h0]
      · rw [if_neg h0, if_neg h0]
        by_cases h3 : k < j
        · rw [if_pos h3, if_pos (by omega)]
        · rw [if_neg h3, if_neg (by omega)]
set_option maxRecDepth 100000 in
set_option maxHeartbeats 4000000 in
theorem name_c {c N : Nat} {w : World} (hc : c < 256) (hN : N < 9223372036854775808) (hT : TabN w) :
    Calls Tryd.prog 14 #[.int .u8 (c : Nat), .int .i64 (N : Nat)] w fun e w' => e = .returned (.string (nmB c N)) ∧ Made w.heap.size w w' := by
  have HT := hid hT
  clear hT
  go_enter Tryd.func14, Tryd.ntmps14
  go_upto_region 3 with fail
  obtain ⟨W, eW⟩ : ∃ W, W = w.alloc (.cells #[.int .u8 (c : Nat), .int .u8 0, .int .u8 0, .int .u8 0, .int .u8 0, .int .u8 0, .int .u8 0, .int .u8 0, .int .u8 0, .int .u8 0, .int .u8 0, .int .u8 0, .int .u8 0, .int .u8 0, .int .u8 0, .int .u8 0, .int .u8 0] 45) := ⟨_, rfl⟩
  have H0 : Hid (Has W w.heap.size 45 (ncs c N 16)) := by unfold Hid; rw [eW]; exact has_new _ _ _
  have M0 : Hid (Made w.heap.size w W) := by unfold Hid; rw [eW]; exact (Made.rfl_ _ _).cells (Nat.le_refl _) _ _
  obtain ⟨G, eG⟩ : ∃ G, w.heap.size = G := ⟨_, rfl⟩
  have h0G : 0 < G := by rw [← eG]; exact HT.out.here
  rw [eG] at H0 M0 ⊢
  have EG := hid eG
  rw [← eW]
  clear eG eW
  go_wp2_with fail
  go_loopg [1, 6] 16 (fun g x i wx => ∃ k : Nat, k = g ∧ k ≤ 16 ∧ x = .int .i64 (N / 16 ^ (16 - k) : Nat) ∧ i = .int .i64 (k : Nat) ∧ Hid (Has wx G 45 (ncs c N k)) ∧ Hid (Made G w wx))
  case atStart => exact ⟨16, rfl, by omega, by simp, rfl, H0, M0⟩
  case round =>
    obtain ⟨k, hk, hk2, rfl, rfl, HH, HM⟩ := hrel
    subst hk
    obtain ⟨x, ex⟩ : ∃ x, N / 16 ^ (16 - k) = x := ⟨_, rfl⟩
    have lx : x < 9223372036854775808 := by rw [← ex]; exact Nat.lt_of_le_of_lt (Nat.div_le_self _ _) hN
    by_cases hp : 0 < k
    · obtain ⟨v, ev⟩ : ∃ v, hexd (N / 16 ^ (16 - k) % 16) = v := ⟨_, rfl⟩
      have HP := hid (ncs_put (c := c) hp hk2 ev)
      have HX : Hid (N / 16 ^ (16 - (k - 1)) = x / 16) := by
        unfold Hid
        rw [show 16 - (k - 1) = 16 - k + 1 by omega, Nat.pow_succ, ← Nat.div_div_eq_div_mul, ex]
      rw [ex] at ev ⊢
      have a1 := nand15 x
      obtain ⟨l, el⟩ : ∃ l, x % 16 = l := ⟨_, rfl⟩
      have ll : l < 16 := by omega
      rw [el] at a1 ev
      have t1 := HM.out.at_ (p := ⟨0, l, none⟩) h0G (HT.out l ll)
      rw [ev] at t1
      obtain ⟨y, ey⟩ : ∃ y, x / 16 = y := ⟨_, rfl⟩
      have ly : y < 9223372036854775808 := by omega
      have d1 : (x : Int) / 16 = (y : Int) := by omega
      obtain ⟨k', ek⟩ : ∃ k', k = k' + 1 := ⟨k - 1, by omega⟩
      subst ek
      have f1 := HH.out.free (k' + 1)
      have z1 := HH.out.at_ (k' + 1)
      rw [ncs_at _ _ _ _ (show k' + 1 < 17 by omega)] at z1
      obtain ⟨z, ez⟩ : ∃ z, (if k' + 1 = 0 then c else if k' + 1 < k' + 1 then dg 16 N (k' + 1 - 1) else 0) = z := ⟨_, rfl⟩
      rw [ez] at z1
      have EY := hid ey
      have e9 : ((k' + 1 : Nat) : Int) - 1 = (k' : Int) := by omega
      clear ex el ey ev ez
      go_upto_region 7 with fail
      obtain ⟨W2, eW2⟩ : ∃ W2, W2 = wr.setCell ⟨G, k' + 1, none⟩ (.int .u8 (v : Nat)) := ⟨_, rfl⟩
      have H2 : Hid (Has W2 G 45 (ncs c N k')) := by
        unfold Hid
        have := HH.out.put (k' + 1) (.int .u8 (v : Nat))
        rw [HP.out] at this
        rw [eW2]; exact this
      have M2 : Hid (Made G w W2) := by unfold Hid; rw [eW2]; exact HM.out.put (Nat.le_refl _) _
      rw [← eW2]
      clear eW2 HP HH HM z1 f1 t1
      go_wp2_with fail
      go_roundg k'
      case rel => exact ⟨k', rfl, by omega, by rw [← EY.out]; exact congrArg (fun z : Nat => Value.int .i64 (z : Int)) HX.out.symm, by go_num, H2, M2⟩
      case measure => omega
    · have h0 : k = 0 := by omega
      subst h0
      have HB : Hid (By wr (some ⟨G, 0, none⟩) 17 (nmF c N)) := fun _ => ⟨G, 0, rfl, fun i hi => by
        rw [Nat.zero_add, HH.out.at_ i, ncs_at _ _ _ _ hi]
        unfold nmF
        by_cases h0 : i = 0
        · rw [if_pos h0, if_pos h0]
        · rw [if_neg h0, if_neg h0, if_pos (by omega)]⟩
      have q := conv_by (c := 17) HB.out
      rw [show strB (nmF c N) 17 = nmB c N from rfl] at q
      clear ex lx
      go_wp2_with fail
      go_ret
      exact ⟨rfl, by rw [EG.out]; exact HM.out⟩
end Go.Proofs.YtmdhlobonnikcaaDoor.Fx
