/- Package disk: names; Arm. -/
import Derived.Test.YtdaelblapgcljaaDkC
namespace Go.Proofs.Ytdaelblapgcljaa.Fx
open Go.ChangeShapes Go.WideShapes Go.ChangeAt Go.RowKit Go.Maps
set_option linter.unusedVariables false

/-- a function without results ends, by its last line or by a return -/
theorem void_endD {P : Program} {fn : Func} {R : Ending → World → Prop} {a : Act} {w : World} (h : fn.results = #[]) (hd : a.defers = []) (hR : R (.returned (.tuple #[])) w) : bodyPost P fn R .normal a w := bodyPost_end (results_none h _ _ _) hd hR
theorem void_retD {P : Program} {fn : Func} {R : Ending → World → Prop} {a : Act} {w : World} (h : fn.results = #[]) (hd : a.defers = []) (hR : R (.returned (.tuple #[])) w) : bodyPost P fn R .ret a w := bodyPost_ret (results_none h _ _ _) hd hR
theorem bret_i {a b : Bool} (h : a = b) : Ending.returned (.bool a) = .returned (.bool b) := by rw [h]
/-- the sign of byte i -/
def byS (s : ByteArray) (i : Nat) : Nat := (s.data.toList.getD i 0).toNat
theorem nameD_iff (s : ByteArray) : nameD s ↔ 0 < s.size ∧ s.size ≤ 24 ∧ ∀ i, i < s.size → signD (byS s i) := by
  unfold nameD
  have hl : s.data.toList.length = s.size := Array.length_toList
  refine ⟨fun h => ⟨h.1, h.2.1, fun i hi => ?_⟩, fun h => ⟨h.1, h.2.1, fun c hc => ?_⟩⟩
  · unfold byS
    have hi' : i < s.data.toList.length := by omega
    rw [List.getD_eq_getElem?_getD, List.getElem?_eq_getElem hi', Option.getD_some]
    exact h.2.2 _ (List.getElem_mem hi')
  · obtain ⟨i, hi, rfl⟩ := List.mem_iff_getElem.mp hc
    have := h.2.2 i (by omega)
    unfold byS at this
    rwa [List.getD_eq_getElem?_getD, List.getElem?_eq_getElem hi, Option.getD_some] at this
theorem signD_no {c : Nat} (h : ¬ signD c) : (97 ≤ c → 122 < c) ∧ (48 ≤ c → 57 < c) ∧ c ≠ 45 := by unfold signD at h; omega
set_option maxRecDepth 100000 in
set_option maxHeartbeats 2000000 in
theorem disname_c {s : ByteArray} {w : World} (hz : s.size ≤ maxLen) : Calls Try.prog 41 #[.string s] w fun e w' => e = .returned (.bool (decide (nameD s))) ∧ w = w' := by
  unfold maxLen at hz
  obtain ⟨n, en⟩ : ∃ n, s.size = n := ⟨_, rfl⟩
  have hix : ∀ (i : Nat) (w : World), i < n → (Instr.index 9 (.string s) (.int .i64 (i : Nat))).run Try.prog w = .ok (.int .u8 (byS s i : Nat)) w := by
    intro i w hi
    have hi' : i < s.size := by omega
    have e : s[i] = s.data.toList.getD i 0 := by
      rw [List.getD_eq_getElem?_getD, Array.getElem?_toList, Array.getElem?_eq_getElem (show i < s.data.size from hi'), Option.getD_some]
      rfl
    rw [run_index_string w 9 s .i64 (i : Nat) Try.underlying9]
    rw [dif_pos (⟨by omega, by omega⟩ : 0 ≤ ((i : Nat) : Int) ∧ ((i : Nat) : Int) < s.size)]
    unfold byS
    rw [← e]
    rfl
  have hlt : ∀ i, byS s i < 256 := fun i => by unfold byS; exact (s.data.toList.getD i 0).toNat_lt
  have HI := hid (nameD_iff s)
  rw [en] at HI hz
  go_enter Try.func41, Try.ntmps41
  go_wp2_with fail
  go_loopg [3, 4, 7] n (fun g a b i wx => ∃ k : Nat, k + g = n ∧ i = .int .i64 (k : Nat) ∧ Hid (∀ j, j < k → signD (byS s j)) ∧ Hid (w = wx))
  case atStart => exact ⟨0, by omega, by first | rfl | trivial, fun j hj => absurd hj (by omega), rfl⟩
  case round =>
    obtain ⟨k, hk, rfl, HS, HW⟩ := hrel
    have hW := HW.out
    subst hW
    by_cases hkn : k < n
    · have hx := hix k w hkn
      have hc := hlt k
      have HK := hid (fun (h : signD (byS s k)) => (fun j (hj : j < k + 1) => by
        by_cases e : j = k
        · rw [e]; exact h
        · exact HS.out j (by omega) : ∀ j, j < k + 1 → signD (byS s j)))
      have HN := hid (fun (h : ¬ signD (byS s k)) => (decide_eq_false (fun h2 => h ((HI.out.1 h2).2.2 k hkn)) : decide (nameD s) = false))
      clear hix hlt
      obtain ⟨c, ec⟩ : ∃ c, byS s k = c := ⟨_, rfl⟩
      rw [ec] at hx hc HK HN
      clear ec
      have hall : (97 ≤ c ∧ c ≤ 122) ∨ (97 ≤ c ∧ ¬ c ≤ 122) ∨ (¬ 97 ≤ c ∧ 48 ≤ c ∧ c ≤ 57) ∨ (¬ 97 ≤ c ∧ 48 ≤ c ∧ ¬ c ≤ 57) ∨ (¬ 48 ≤ c ∧ c = 45) ∨ (¬ 48 ≤ c ∧ ¬ c = 45) := by omega
      rcases hall with hh | hh | hh | hh | hh | hh
      · have HH := hid hh
        have f0 : decide (97 ≤ (c : Int)) = true := decide_eq_true (by omega)
        have f1 : decide ((c : Int) ≤ 122) = true := decide_eq_true (by omega)
        clear hh
        go_wp2_with fail
        go_roundg (n - k - 1)
        case rel => exact ⟨k + 1, by omega, by go_num, HK.out (by have := HH.out; unfold signD; omega), rfl⟩
        case measure => omega
      · have HH := hid hh
        have f0 : decide (97 ≤ (c : Int)) = true := decide_eq_true (by omega)
        have f1 : decide ((c : Int) ≤ 122) = false := decide_eq_false (by omega)
        have f2 : decide (48 ≤ (c : Int)) = true := decide_eq_true (by omega)
        have f3 : decide ((c : Int) ≤ 57) = false := decide_eq_false (by omega)
        have f4 : ((c : Int) == 45) = false := by simp; omega
        clear hh
        have HN2 := hid (HN.out (by have := HH.out; unfold signD; omega))
        go_wp2_with fail
        go_ret
        exact ⟨bret_i HN2.out.symm, rfl⟩
      · have HH := hid hh
        have f0 : decide (97 ≤ (c : Int)) = false := decide_eq_false (by omega)
        have f1 : decide (48 ≤ (c : Int)) = true := decide_eq_true (by omega)
        have f2 : decide ((c : Int) ≤ 57) = true := decide_eq_true (by omega)
        clear hh
        go_wp2_with fail
        go_roundg (n - k - 1)
        case rel => exact ⟨k + 1, by omega, by go_num, HK.out (by have := HH.out; unfold signD; omega), rfl⟩
        case measure => omega
      · have HH := hid hh
        have f0 : decide (97 ≤ (c : Int)) = false := decide_eq_false (by omega)
        have f1 : decide (48 ≤ (c : Int)) = true := decide_eq_true (by omega)
        have f2 : decide ((c : Int) ≤ 57) = false := decide_eq_false (by omega)
        have f3 : ((c : Int) == 45) = false := by simp; omega
        clear hh
        have HN2 := hid (HN.out (by have := HH.out; unfold signD; omega))
        go_wp2_with fail
        go_ret
        exact ⟨bret_i HN2.out.symm, rfl⟩
      · have HH := hid hh
        have f0 : decide (97 ≤ (c : Int)) = false := decide_eq_false (by omega)
        have f1 : decide (48 ≤ (c : Int)) = false := decide_eq_false (by omega)
        have f2 : ((c : Int) == 45) = true := by simp; omega
        clear hh
        go_wp2_with fail
        go_roundg (n - k - 1)
        case rel => exact ⟨k + 1, by omega, by go_num, HK.out (by have := HH.out; unfold signD; omega), rfl⟩
        case measure => omega
      · have HH := hid hh
        have f0 : decide (97 ≤ (c : Int)) = false := decide_eq_false (by omega)
        have f1 : decide (48 ≤ (c : Int)) = false := decide_eq_false (by omega)
        have f2 : ((c : Int) == 45) = false := by simp; omega
        clear hh
        have HN2 := hid (HN.out (by have := HH.out; unfold signD; omega))
        go_wp2_with fail
        go_ret
        exact ⟨bret_i HN2.out.symm, rfl⟩
    · have e : k = n := by omega
      subst e
      clear hix hlt
      have hall : k = 0 ∨ (1 ≤ k ∧ k ≤ 24) ∨ 24 < k := by omega
      rcases hall with hh | hh | hh
      · have f0 : decide (1 ≤ (k : Int)) = false := decide_eq_false (by omega)
        have HN : Hid (decide (nameD s) = false) := decide_eq_false (fun h2 => by have := (HI.out.1 h2).1; omega)
        have hh := hid hh
        go_wp2_with fail
        go_ret
        exact ⟨bret_i HN.out.symm, rfl⟩
      · have f0 : decide (1 ≤ (k : Int)) = true := decide_eq_true (by omega)
        have f1 : decide ((k : Int) ≤ 24) = true := decide_eq_true (by omega)
        have HN : Hid (decide (nameD s) = true) := decide_eq_true (HI.out.2 ⟨by omega, by omega, HS.out⟩)
        go_wp2_with fail
        go_ret
        exact ⟨bret_i HN.out.symm, rfl⟩
      · have f0 : decide (1 ≤ (k : Int)) = true := decide_eq_true (by omega)
        have f1 : decide ((k : Int) ≤ 24) = false := decide_eq_false (by omega)
        have HN : Hid (decide (nameD s) = false) := decide_eq_false (fun h2 => by have := (HI.out.1 h2).2.1; omega)
        go_wp2_with fail
        go_ret
        exact ⟨bret_i HN.out.symm, rfl⟩
theorem ArmP.arm {d : Dsk} {ar dn fl : Int} (h : ArmP d ar dn fl) (h0 : 0 ≤ d.ops) {x y : Int} (hx : -9223372036854775808 ≤ x ∧ x ≤ 9223372036854775807) (hy : -9223372036854775808 ≤ y ∧ y ≤ 9223372036854775807) : ArmP (armD d x y) d.ops x y := by
  refine ⟨h0, Int.le_refl _, hx, hy, fun n h1 h2 => ?_, fun n h1 h2 => ?_, ?_⟩
  · have h1 : d.ops ≤ n := h1
    show n - d.ops = x ↔ n = if 0 ≤ x ∧ x ≤ 1099511627776 then d.ops + x else -1
    split <;> omega
  · have h1 : d.ops ≤ n := h1
    show n - d.ops = y ↔ n = if 0 ≤ y ∧ y ≤ 1099511627776 then d.ops + y else -1
    split <;> omega
  · show d.off = true ∨ (if 0 ≤ x ∧ x ≤ 1099511627776 then d.ops + x else -1) < 0 ∨ d.ops ≤ (if 0 ≤ x ∧ x ≤ 1099511627776 then d.ops + x else -1)
    right
    split <;> omega
set_option maxRecDepth 100000 in
set_option maxHeartbeats 2000000 in
theorem darm_c {w : World} {k : Dk} {d : Dsk} (h : DAt w k d) (h0 : 0 ≤ d.ops) {x y : Int} (hx : -9223372036854775808 ≤ x ∧ x ≤ 9223372036854775807) (hy : -9223372036854775808 ≤ y ∧ y ≤ 9223372036854775807) :
    Calls Try.prog 17 #[.pointer (some ⟨k.p, 0, none⟩), .int .i64 x, .int .i64 y] w fun e w' => e = .returned (.tuple #[]) ∧ DRes w w' k d { k with ar := d.ops, dn := x, fl := y } (armD d x y) := by
  obtain ⟨k', ek⟩ : ∃ k' : Dk, k' = { k with ar := d.ops, dn := x, fl := y } := ⟨_, rfl⟩
  rw [← ek]
  have H := hid (dnone_c h)
  have HP := hid (h.arm.arm h0 hx hy)
  have f8 := h.top.free 8; have f9 := h.top.free 9; have f10 := h.top.free 10
  obtain ⟨-, -, -, -, -, -, -, c7, c8, c9, c10⟩ := h.cells
  obtain ⟨p, ep⟩ : ∃ p, k.p = p := ⟨_, rfl⟩
  obtain ⟨O, eO⟩ : ∃ O, d.ops = O := ⟨_, rfl⟩
  rw [ep, eO] at c7
  rw [ep] at c8 c9 c10 f8 f9 f10 H ⊢
  have HE : Hid (DRes w (((w.setCell ⟨p, 8, none⟩ (.int .i64 O)).setCell ⟨p, 9, none⟩ (.int .i64 x)).setCell ⟨p, 10, none⟩ (.int .i64 y)) k d k' (armD d x y)) := by
    rw [ek]
    have h1 : Has w p 62 (topA k d) := ep ▸ h.top
    have h2 := ((h1.put 8 (.int .i64 O)).put 9 (.int .i64 x)).put 10 (.int .i64 y)
    have e : (((topA k d).setIfInBounds 8 (.int .i64 O)).setIfInBounds 9 (.int .i64 x)).setIfInBounds 10 (.int .i64 y) = topA { k with ar := d.ops, dn := x, fl := y } (armD d x y) := by rw [← eO]; rfl
    rw [e] at h2
    have hT : Tn (fun b => b = k.p) w (((w.setCell ⟨p, 8, none⟩ (.int .i64 O)).setCell ⟨p, 9, none⟩ (.int .i64 x)).setCell ⟨p, 10, none⟩ (.int .i64 y)) :=
      (((tn_put w ⟨p, 8, none⟩ (.int .i64 O)).up fun b hb => .inl (hb.trans ep.symm)).then0 ((tn_put _ ⟨p, 9, none⟩ (.int .i64 x)).up fun b hb => .inl (hb.trans ep.symm))).then0 ((tn_put _ ⟨p, 10, none⟩ (.int .i64 y)).up fun b hb => .inl (hb.trans ep.symm))
    exact h.top_ rfl (by rw [ep]; exact h2) hT HP.out rfl rfl rfl rfl rfl rfl rfl rfl rfl rfl rfl
  clear h HP ek ep eO hx hy h0
  go_enter Try.func17, Try.ntmps17
  go_wp2_with fail
  refine H.out.mono ?_
  rintro e w' ⟨rfl, rfl⟩
  go_wp2_with fail
  exact void_endD rfl rfl ⟨rfl, HE.out⟩
end Go.Proofs.Ytdaelblapgcljaa.Fx
