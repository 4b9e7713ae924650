/- sort.Find. -/
import Derived.Test.YtggpchclfikneaaWoA
namespace Go.Proofs.Ytggpchclfikneaa.Fx
open Go.ChangeShapes Go.WideShapes Go.ChangeAt Go.RowKit
set_option linter.unusedVariables false

set_option maxRecDepth 100000 in
set_option maxHeartbeats 4000000 in
theorem sfind_c (g : Nat) (lb : Array Value) (eg : ∀ args w, (callFunc g args).run Try.prog w = .ok (.enter g args) w) (f : Nat → Int) {n : Nat} {w : World} (hn : n ≤ 1073741824)
    (hm : ∀ i j, i ≤ j → j < n → f i ≤ 0 → f j ≤ 0)
    (hS : ∀ i u, i < n → Made w.heap.size w u → Calls Try.prog g (#[.int .i64 (i : Nat)] ++ lb) u fun e v => e = .returned (.int .i64 (f i)) ∧ Made u.heap.size u v) :
    Calls Try.prog 61 #[.int .i64 (n : Nat), .func (.func g) #[] lb] w fun e v => ∃ (i : Nat) (r : Bool), i ≤ n ∧ e = .returned (.tuple #[.int .i64 (i : Nat), .bool r]) ∧ Made w.heap.size w v ∧ (∀ k, k < i → 0 < f k) ∧ (∀ k, i ≤ k → k < n → f k ≤ 0) ∧ (r = true ↔ i < n ∧ f i = 0) := by
  have HM := hid hm
  have HS := hid hS
  clear hm hS
  go_enter Try.func61, Try.ntmps61
  go_wp2_with fail
  go_loopg [4, 6, 7] n (fun gg s4 s6 s7 wx => ∃ i j : Nat, i ≤ j ∧ j ≤ n ∧ j - i ≤ gg ∧ s4 = .int .i64 (i : Nat) ∧ s6 = .int .i64 (j : Nat) ∧ Hid (Made w.heap.size w wx ∧ (∀ k, k < i → 0 < f k) ∧ (∀ k, j ≤ k → k < n → f k ≤ 0)))
  case atStart => exact ⟨0, n, Nat.zero_le _, Nat.le_refl _, by omega, rfl, rfl, Made.rfl_ _ _, fun k hk => absurd hk (Nat.not_lt_zero _), fun k h1 h2 => absurd h1 (by omega)⟩
  case round =>
    obtain ⟨i, j, hij, hjn, hgg, rfl, rfl, HB⟩ := hrel
    by_cases hlt : i < j
    · obtain ⟨h, eh⟩ : ∃ h : Nat, (i + j) / 2 = h := ⟨_, rfl⟩
      have h1 : i ≤ h := by omega
      have h2 : h < j := by omega
      have eh' : ((i : Int) + (j : Int)) / 2 = (h : Int) := by omega
      have hcall := HS.out h wr (by omega) HB.out.1
      obtain ⟨z, ez⟩ : ∃ z, f h = z := ⟨_, rfl⟩
      rw [ez] at hcall
      have EZ := hid ez
      clear ez eh
      by_cases hz : 0 < z
      · go_wp2_with (go_at_fn g; refine hcall.mono ?_; rintro e w' ⟨rfl, k1⟩)
        go_roundg (j - (h + 1))
        case measure => omega
        case rel =>
          refine ⟨h + 1, j, by omega, hjn, Nat.le_refl _, by go_num, rfl, HB.out.1.then_ (k1.low HB.out.1.1.size), fun k hk => ?_, HB.out.2.2⟩
          by_cases hp : 0 < f k
          · exact hp
          · have := HM.out k h (by omega) (by omega) (by omega)
            have := EZ.out
            omega
      · go_wp2_with (go_at_fn g; refine hcall.mono ?_; rintro e w' ⟨rfl, k1⟩)
        go_roundg (h - i)
        case measure => omega
        case rel =>
          refine ⟨i, h, h1, by omega, Nat.le_refl _, rfl, rfl, HB.out.1.then_ (k1.low HB.out.1.1.size), HB.out.2.1, fun k h3 h4 => ?_⟩
          exact HM.out h k h3 h4 (by have := EZ.out; omega)
    · have e : i = j := by omega
      subst e
      by_cases hin : i < n
      · have hcall := HS.out i wr hin HB.out.1
        obtain ⟨z, ez⟩ : ∃ z, f i = z := ⟨_, rfl⟩
        rw [ez] at hcall
        have EZ := hid ez
        clear ez
        by_cases hz : z = 0
        · have q : (z == 0) = true := by simpa using hz
          have HZ := hid hz
          clear hz
          go_wp2_with (go_at_fn g; refine hcall.mono ?_; rintro e w' ⟨rfl, k1⟩)
          refine bodyPost_ret (v := .tuple #[.int .i64 (i : Nat), .bool true]) (by simp [results, Try.results61, go_sem]) rfl ⟨i, true, hjn, rfl, HB.out.1.then_ (k1.low HB.out.1.1.size), HB.out.2.1, HB.out.2.2, ⟨fun _ => ⟨hin, EZ.out.trans HZ.out⟩, fun _ => rfl⟩⟩
        · have q : (z == 0) = false := by simpa using hz
          have HZ := hid hz
          clear hz
          go_wp2_with (go_at_fn g; refine hcall.mono ?_; rintro e w' ⟨rfl, k1⟩)
          refine bodyPost_ret (v := .tuple #[.int .i64 (i : Nat), .bool false]) (by simp [results, Try.results61, go_sem]) rfl ⟨i, false, hjn, rfl, HB.out.1.then_ (k1.low HB.out.1.1.size), HB.out.2.1, HB.out.2.2, ⟨fun e => (by cases e), fun e => absurd (EZ.out.symm.trans e.2) HZ.out⟩⟩
      · go_wp2_with fail
        refine bodyPost_ret (v := .tuple #[.int .i64 (i : Nat), .bool false]) (by simp [results, Try.results61, go_sem]) rfl ⟨i, false, hjn, rfl, HB.out.1, HB.out.2.1, HB.out.2.2, ⟨fun e => (by cases e), fun e => absurd e.1 hin⟩⟩
end Go.Proofs.Ytggpchclfikneaa.Fx
