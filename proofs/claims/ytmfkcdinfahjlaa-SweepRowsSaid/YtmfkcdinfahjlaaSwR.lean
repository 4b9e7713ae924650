/- SweepRows. -/
import Derived.Test.YtmfkcdinfahjlaaSwF
import Derived.Laws.AppendOwnNone
namespace Go.Proofs.Ytmfkcdinfahjlaa.Fx
open Go.ChangeShapes Go.WideShapes Go.ChangeAt Go.RowKit
set_option linter.unusedVariables false

def rowI (wide : Int) (up : Bool) (i : Nat) : It := if up then ⟨i + 1, 0, i * 100, 5, i * 100 + wide, false⟩ else ⟨i + 1, i * 100, 0, i * 100 + wide, 5, false⟩
def rowsF (wide : Int) (up : Bool) : Nat → List It
  | 0 => []
  | k + 1 => rowI wide up k :: rowsF wide up k
theorem rowsF_len (wide : Int) (up : Bool) : ∀ k, (rowsF wide up k).length = k
  | 0 => rfl
  | k + 1 => by unfold rowsF; rw [List.length_cons, rowsF_len wide up k]
theorem rowsF_mem {wide : Int} {up : Bool} : ∀ {k : Nat} {x : It}, x ∈ rowsF wide up k → ∃ i, i < k ∧ x = rowI wide up i
  | 0, x, h => by simp [rowsF] at h
  | k + 1, x, h => by
    unfold rowsF at h
    rcases List.mem_cons.1 h with rfl | h
    · exact ⟨k, by omega, rfl⟩
    · obtain ⟨i, hi, e⟩ := rowsF_mem h
      exact ⟨i, by omega, e⟩
theorem rowsF_at {wide : Int} {up : Bool} : ∀ {k i : Nat} {x : It}, (rowsF wide up k)[i]? = some x → i < k ∧ x = rowI wide up (k - 1 - i)
  | 0, i, x, h => by simp [rowsF] at h
  | k + 1, 0, x, h => by
    simp [rowsF] at h
    exact ⟨by omega, by rw [← h]; rfl⟩
  | k + 1, i + 1, x, h => by
    have h' : (rowsF wide up k)[i]? = some x := by simpa [rowsF] using h
    obtain ⟨h1, h2⟩ := rowsF_at h'
    refine ⟨by omega, ?_⟩
    rw [h2]
    congr 1
    omega
theorem cl_small {a : Int} (h : 0 ≤ a) : cl a = a := by unfold cl; rw [if_neg (by omega)]
theorem row_taken {wide : Int} {up : Bool} {i j : Nat} {K : Nat} (hw : 0 ≤ wide) (hK : wide / 100 = K) (hij : j < i) : taken (rowI wide up i) (rowI wide up j) = decide (i - j ≤ K) := by
  rw [Bool.eq_iff_iff, decide_eq_true_iff, taken_iff (by unfold rowI; cases up <;> rfl)]
  unfold meetP rowI
  cases up
  · simp only [Bool.false_eq_true, if_false]
    rw [cl_small (by omega), cl_small (by omega), cl_small (by omega), cl_small (by omega), cl_small (by omega), cl_small (by omega)]
    omega
  · simp only [if_true]
    rw [cl_small (by omega), cl_small (by omega), cl_small (by omega), cl_small (by omega), cl_small (by omega), cl_small (by omega)]
    omega
theorem with_len {wide : Int} {up : Bool} {K : Nat} (hw : 0 ≤ wide) (hK : wide / 100 = K) (m : Nat) : ∀ i, i ≤ m → (withF (rowI wide up m) (rowsF wide up i)).length = i - (m - K)
  | 0, _ => by simp [withF, rowsF]
  | i + 1, h => by
    have ih := with_len (up := up) hw hK m i (by omega)
    show (withF _ (rowI wide up i :: rowsF wide up i)).length = _
    rw [withF_cons, row_taken hw hK (show i < m by omega), List.length_append, ih]
    by_cases hd : m - i ≤ K
    · rw [if_pos (by simpa using hd)]
      simp only [List.length_singleton]
      omega
    · rw [if_neg (by simpa using hd)]
      simp only [List.length_nil]
      omega
/-- so many of the next ones each one meets -/
def sumR (K : Nat) : Nat → Nat
  | 0 => 0
  | i + 1 => sumR K i + min K i
theorem sumR_succ (K i : Nat) : sumR K (i + 1) = sumR K i + min K i := rfl
def sumW (K n : Nat) : Nat → Nat
  | 0 => 0
  | i + 1 => sumW K n i + min K (n - 1 - i)
theorem sumW_eq (K n : Nat) : ∀ i, i ≤ n → sumW K n i + sumR K (n - i) = sumR K n
  | 0, _ => by simp [sumW]
  | i + 1, h => by
    have ih := sumW_eq K n i (by omega)
    obtain ⟨d, hd⟩ : ∃ d, n - i = d + 1 := ⟨n - i - 1, by omega⟩
    rw [hd] at ih
    unfold sumW
    rw [sumR_succ] at ih
    have e1 : n - (i + 1) = d := by omega
    have e2 : n - 1 - i = d := by omega
    rw [e1, e2]
    omega
theorem sumW_le (K n : Nat) (hK : K ≤ 2) : ∀ i, sumW K n i ≤ 2 * i
  | 0 => by simp [sumW]
  | i + 1 => by
    have ih := sumW_le K n hK i
    show sumW K n i + min K (n - 1 - i) ≤ _
    omega
theorem rows_len {wide : Int} {up : Bool} {K : Nat} (hw : 0 ≤ wide) (hK : wide / 100 = K) : ∀ n, (collect (rowsF wide up n)).length = sumR K n
  | 0 => rfl
  | n + 1 => by
    show (withF (rowI wide up n) (rowsF wide up n) ++ collect (rowsF wide up n)).length = _
    rw [List.length_append, with_len hw hK n n (Nat.le_refl _), rows_len hw hK n, sumR_succ]
    omega
theorem rows_want {wide : Int} {up : Bool} {K n : Nat} (hw : 0 ≤ wide) (hK : wide / 100 = K) : (pairsF (rowsF wide up n)).length = sumW K n n := by
  rw [pairsF_length, rows_len hw hK]
  have := sumW_eq K n n (Nat.le_refl _)
  rw [Nat.sub_self] at this
  exact this.symm
theorem rows_near {wide : Int} {up : Bool} {K n : Nat} (hw : 0 ≤ wide) (hK : wide / 100 = K) {p : Int × Int} (hp : p ∈ pairsF (rowsF wide up n)) : p.2 - p.1 ≤ K ∧ p.1 < p.2 ∧ 0 ≤ p.1 ∧ p.2 ≤ n := by
  obtain ⟨i, j, a, b, hij, ha, hb, ht, rfl⟩ := collect_mem (pairsF_mem.1 hp)
  obtain ⟨h1, rfl⟩ := rowsF_at ha
  obtain ⟨h2, rfl⟩ := rowsF_at hb
  rw [row_taken hw hK (by omega)] at ht
  have hd := of_decide_eq_true ht
  have e : ∀ i, (rowI wide up i).id = i + 1 := fun i => by unfold rowI; cases up <;> rfl
  unfold pairOf
  simp only [e]
  omega
theorem rows_i {wide : Int} {up : Bool} {n : Nat} (hw : 0 ≤ wide ∧ wide ≤ 255) (hn : n ≤ 100) : ItsI (rowsF wide up n) := by
  intro x hx
  obtain ⟨i, hi, rfl⟩ := rowsF_mem hx
  unfold rowI ItI I64
  cases up <;> simp <;> omega
theorem Has.lsb {w : World} {g : Nat} {t : TypeId} {cs : Array Value} (h : Has w g t cs) (hs : cs.size = 6) (base : Nat) (hb : base ≤ g) : w.ownsRow base t 6 (.slice (some ⟨g, 0, none⟩) 1 1) 1 cs.toList :=
  ⟨by simpa using hs, .inr ⟨g, 1, cs, rfl, hb, h, Nat.le_refl _, by unfold maxLen; omega, hs, by rw [List.take_of_length_le (by simp; omega)]⟩⟩

set_option maxRecDepth 100000 in
set_option maxHeartbeats 8000000 in
theorem swrows_walk (n wide : Int) (up : Bool) (w : World) (hn : 0 ≤ n ∧ n ≤ 255) (hw : 0 ≤ wide ∧ wide ≤ 255) :
    Calls Try.prog 8 #[.int .u8 n, .int .u8 wide, .bool up] w fun e w' => e = .returned (.bool true) ∧ Below w.heap.size w w' := by
  obtain ⟨i0, hi, hz0, hz1, hz2⟩ := info_parts info_It
  have iHi := hid hi; have iH0 := hid hz0; have iH1 := hid hz1; have iH2 := hid hz2
  clear hi hz0 hz1 hz2
  obtain ⟨h1, h2⟩ := hn
  obtain ⟨h3, h4⟩ := hw
  obtain ⟨N, eN⟩ : ∃ N : Nat, n.tmod 20 = (N : Int) := ⟨(n % 20).toNat, by rw [Int.tmod_eq_emod_of_nonneg h1]; omega⟩
  have hN : N < 20 := by rw [Int.tmod_eq_emod_of_nonneg h1] at eN; omega
  obtain ⟨K, eK⟩ : ∃ K : Nat, wide.tdiv 100 = (K : Int) := ⟨(wide / 100).toNat, by rw [Int.tdiv_eq_ediv_of_nonneg h3]; omega⟩
  have HK : Hid (wide / 100 = K) := by unfold Hid; rw [← eK, Int.tdiv_eq_ediv_of_nonneg h3]
  have hK2 : K ≤ 2 := by have := HK.out; omega
  go_enter Try.func8, Try.ntmps8
  go_wp2_with fail
  refine (swfit_c _).mono ?_
  rintro e w1 ⟨rfl, hb⟩
  have HB : Hid (Below w.heap.size w w1) := hb
  clear hb
  go_wp2_with fail
  go_loopg [7, 22] N (fun g s7 s22 wx => ∃ k : Nat, k + g = N ∧ s22 = .int .i64 k ∧ Hid (wx.ownsRow w.heap.size 61 6 s7 (rowsF wide up k).length (flatE encI (rowsF wide up k))) ∧ Hid (k = 0 → s7 = .slice none 0 0) ∧ Hid (Below w.heap.size w wx))
  case atStart => exact ⟨0, by omega, rfl, ⟨rfl, .inl ⟨rfl, rfl⟩⟩, fun _ => rfl, HB.out⟩
  case round =>
    obtain ⟨k, hk, rfl, HW, HZ, HM⟩ := hrel
    by_cases hlt : k < N
    · have hbase : w.heap.size ≤ wr.heap.size := HM.out.size
      cases k with
      | zero =>
        have hz := HZ.out rfl
        subst hz
        clear HZ HW
        cases up
        · skip
          go_wp2_with (at_builtin; refine wpList_append_own_none rfl _ _ 52 rfl w.heap.size 61 i0 6 Try.underlying52 iHi.out (.slice (some ⟨wr.heap.size + 1, 0, none⟩) 1 1) 1 [.int .i64 1, .int .i64 0, .int .i64 0, .int .i64 wide, .int .i64 5, .bool false] rfl (Has.lsb (has_nxt _ _ _ _) rfl _ (by omega)) rfl ?_)
          go_roundg (N - 1)
          case rel =>
            refine ⟨1, by omega, by go_num, ?_, fun h => by omega, ?_⟩
            · have e : flatE encI (rowsF wide false 1) = [.int .i64 1, .int .i64 0, .int .i64 0, .int .i64 wide, .int .i64 5, .bool false] := by simp [flatE, rowsF, rowI, encI]
              unfold Hid
              rw [e]
              exact Has.lsb (has_nxt _ _ _ _) rfl _ (by omega)
            · exact (HM.out.alloc hbase _).alloc (by simp; omega) _
          case measure => omega
        · skip
          go_wp2_with (at_builtin; refine wpList_append_own_none rfl _ _ 52 rfl w.heap.size 61 i0 6 Try.underlying52 iHi.out (.slice (some ⟨wr.heap.size + 1, 0, none⟩) 1 1) 1 [.int .i64 1, .int .i64 0, .int .i64 0, .int .i64 5, .int .i64 wide, .bool false] rfl (Has.lsb (has_nxt _ _ _ _) rfl _ (by omega)) rfl ?_)
          go_roundg (N - 1)
          case rel =>
            refine ⟨1, by omega, by go_num, ?_, fun h => by omega, ?_⟩
            · have e : flatE encI (rowsF wide true 1) = [.int .i64 1, .int .i64 0, .int .i64 0, .int .i64 5, .int .i64 wide, .bool false] := by simp [flatE, rowsF, rowI, encI]
              unfold Hid
              rw [e]
              exact Has.lsb (has_nxt _ _ _ _) rfl _ (by omega)
            · exact (HM.out.alloc hbase _).alloc (by simp; omega) _
          case measure => omega
      | succ k0 =>
        obtain ⟨ao, c, rfl, hcap, hL, hfr⟩ := LsT.of_own encI_len HW.out
        obtain ⟨b, off, rfl, hbl, hLB⟩ := hL (by rw [rowsF_len]; omega)
        have HLB := hid hLB
        have HC := hid hcap
        have HLen : Hid ((flatE encI (rowsF wide up (k0 + 1))).length = (k0 + 1) * 6) := by unfold Hid; rw [flatE_len encI_len, rowsF_len]
        have HNews : Hid (∀ (W : World), Below wr.heap.size wr W → ∀ j u, (flatE encI (rowsF wide up (k0 + 1)))[j]? = some u → W.cell? ((⟨b, off, none⟩ : Addr).add j) = some u) := fun W hW j u hu => by rw [Addr.add_lit]; exact LsT.flat_at encI_len (hLB.below hW hbl) j u hu
        rw [rowsF_len]
        clear hcap hL hfr hLB
        cases up
        · skip
          obtain ⟨q1, f1⟩ : ∃ z : Int, (k0 : Int) + 1 + 1 = z := ⟨_, rfl⟩
          obtain ⟨q2, f2⟩ : ∃ z : Int, ((k0 : Int) + 1) * 100 = z := ⟨_, rfl⟩
          obtain ⟨q3, f3⟩ : ∃ z : Int, q2 + wide = z := ⟨_, rfl⟩
          have F1 := hid f1; have F2 := hid f2; have F3 := hid f3
          have hq20 : 0 ≤ q2 := by omega
          have hq21 : q2 ≤ 2000 := by omega
          go_wp2_with (at_builtin; refine wpList_append_own _ rfl _ _ 52 rfl w.heap.size 61 i0 (.agg #[.int .i64 0, .int .i64 0, .int .i64 0, .int .i64 0, .int .i64 0, .bool false]) 6 48 Try.underlying52 iHi.out iH0.out iH1.out iH2.out rfl (by decide) (.slice (some ⟨wr.heap.size + 1, 0, none⟩) 1 1) 1 [.int .i64 q1, .int .i64 q2, .int .i64 0, .int .i64 q3, .int .i64 5, .bool false] rfl (Has.lsb (has_nxt _ _ _ _) rfl _ (by omega)) ⟨b, off, none⟩ (k0 + 1) c (flatE encI (rowsF wide false (k0 + 1))) rfl HLen.out (HNews.out _ (((Below.refl _ _).alloc (Nat.le_refl _) _).alloc (by simp) _)) (flatE_one encI_one _) (by unfold maxLen; omega) (by omega) (by simp; omega) ?_)
          intro v' wk hown hgr hnil
          have HM2 : Hid (Below w.heap.size w wk) := ((HM.out.alloc hbase _).alloc (by simp; omega) _).grown hgr (by simp; omega) (fun b hb => by cases hb; show w.heap.size ≤ wr.heap.size + 1; omega)
          have HW2 : Hid (wk.ownsRow w.heap.size 61 6 v' (rowsF wide false (k0 + 1 + 1)).length (flatE encI (rowsF wide false (k0 + 1 + 1)))) := by
            have e : flatE encI (rowsF wide false (k0 + 1 + 1)) = [.int .i64 q1, .int .i64 q2, .int .i64 0, .int .i64 q3, .int .i64 5, .bool false] ++ flatE encI (rowsF wide false (k0 + 1)) := by
              show encI (rowI wide false (k0 + 1)) ++ flatE encI (rowsF wide false (k0 + 1)) = _
              congr 1
              have G1 := F1.out; have G2 := F2.out; have G3 := F3.out
              unfold rowI encI
              simp
              omega
            unfold Hid
            rw [e, rowsF_len, show k0 + 1 + 1 = 1 + (k0 + 1) by omega]
            exact hown
          clear hown hgr hnil f1 f2 f3
          go_wp2_with fail
          go_roundg (N - (k0 + 1 + 1))
          case rel => exact ⟨k0 + 1 + 1, by omega, by go_num, HW2, fun h => by omega, HM2⟩
          case measure => omega
        · skip
          obtain ⟨q1, f1⟩ : ∃ z : Int, (k0 : Int) + 1 + 1 = z := ⟨_, rfl⟩
          obtain ⟨q2, f2⟩ : ∃ z : Int, ((k0 : Int) + 1) * 100 = z := ⟨_, rfl⟩
          obtain ⟨q3, f3⟩ : ∃ z : Int, q2 + wide = z := ⟨_, rfl⟩
          have F1 := hid f1; have F2 := hid f2; have F3 := hid f3
          have hq20 : 0 ≤ q2 := by omega
          have hq21 : q2 ≤ 2000 := by omega
          go_wp2_with (at_builtin; refine wpList_append_own _ rfl _ _ 52 rfl w.heap.size 61 i0 (.agg #[.int .i64 0, .int .i64 0, .int .i64 0, .int .i64 0, .int .i64 0, .bool false]) 6 48 Try.underlying52 iHi.out iH0.out iH1.out iH2.out rfl (by decide) (.slice (some ⟨wr.heap.size + 1, 0, none⟩) 1 1) 1 [.int .i64 q1, .int .i64 0, .int .i64 q2, .int .i64 5, .int .i64 q3, .bool false] rfl (Has.lsb (has_nxt _ _ _ _) rfl _ (by omega)) ⟨b, off, none⟩ (k0 + 1) c (flatE encI (rowsF wide true (k0 + 1))) rfl HLen.out (HNews.out _ (((Below.refl _ _).alloc (Nat.le_refl _) _).alloc (by simp) _)) (flatE_one encI_one _) (by unfold maxLen; omega) (by omega) (by simp; omega) ?_)
          intro v' wk hown hgr hnil
          have HM2 : Hid (Below w.heap.size w wk) := ((HM.out.alloc hbase _).alloc (by simp; omega) _).grown hgr (by simp; omega) (fun b hb => by cases hb; show w.heap.size ≤ wr.heap.size + 1; omega)
          have HW2 : Hid (wk.ownsRow w.heap.size 61 6 v' (rowsF wide true (k0 + 1 + 1)).length (flatE encI (rowsF wide true (k0 + 1 + 1)))) := by
            have e : flatE encI (rowsF wide true (k0 + 1 + 1)) = [.int .i64 q1, .int .i64 0, .int .i64 q2, .int .i64 5, .int .i64 q3, .bool false] ++ flatE encI (rowsF wide true (k0 + 1)) := by
              show encI (rowI wide true (k0 + 1)) ++ flatE encI (rowsF wide true (k0 + 1)) = _
              congr 1
              have G1 := F1.out; have G2 := F2.out; have G3 := F3.out
              unfold rowI encI
              simp
              omega
            unfold Hid
            rw [e, rowsF_len, show k0 + 1 + 1 = 1 + (k0 + 1) by omega]
            exact hown
          clear hown hgr hnil f1 f2 f3
          go_wp2_with fail
          go_roundg (N - (k0 + 1 + 1))
          case rel => exact ⟨k0 + 1 + 1, by omega, by go_num, HW2, fun h => by omega, HM2⟩
          case measure => omega
    · have ek : k = N := by omega
      subst ek
      obtain ⟨ao, c, rfl, hcap, hL, hfr⟩ := LsT.of_own encI_len HW.out
      have HZ' : Hid (ao = none → rowsF wide up k = []) := fun h0 => by
        rcases Nat.eq_zero_or_pos (rowsF wide up k).length with h | h
        · exact List.length_eq_zero_iff.1 h
        · obtain ⟨b, off, e, _⟩ := hL h
          rw [h0] at e; cases e
      have HFl : Hid (Flt ao) := by
        rcases Nat.eq_zero_or_pos k with h | h
        · have := HZ.out h
          simp at this
          exact .inl this.1
        · obtain ⟨b, off, e, _⟩ := hL (by rw [rowsF_len]; omega)
          exact .inr ⟨b, off, e⟩
      have HP := hid (pairs_c (c := c) (rowsF_len wide up k) hL HFl.out (by omega) HZ'.out (rows_i ⟨h3, h4⟩ (by omega)))
      have HWant : Hid ((pairsF (rowsF wide up k)).length = sumW K k k) := rows_want h3 HK.out
      have HNear : Hid (∀ p, p ∈ pairsF (rowsF wide up k) → p.2 - p.1 ≤ K ∧ p.1 < p.2 ∧ 0 ≤ p.1 ∧ p.2 ≤ k) := fun p hp => rows_near h3 HK.out hp
      obtain ⟨L, eL⟩ : ∃ L, pairsF (rowsF wide up k) = L := ⟨_, rfl⟩
      rw [eL] at HP HWant HNear
      rw [rowsF_len]
      clear hcap hL hfr HZ HZ' HFl HW eL
      go_wp2_with fail
      go_loopg [12, 57] k (fun g s12 s57 wx => ∃ i : Nat, i + g = k ∧ s57 = .int .i64 i ∧ s12 = .int .i64 (sumW K k i : Nat) ∧ wx = wr)
      case atStart => exact ⟨0, by omega, rfl, rfl, rfl⟩
      case round =>
        obtain ⟨i, hi, rfl, rfl, rfl⟩ := hrel
        by_cases hlt2 : i < k
        · have hs := sumW_le K k hK2 i
          obtain ⟨S, eS⟩ : ∃ S, sumW K k i = S := ⟨_, rfl⟩
          have HS : Hid (sumW K k (i + 1) = S + min K (k - 1 - i)) := by rw [← eS]; rfl
          rw [eS] at hs ⊢
          obtain ⟨T, eT⟩ : ∃ T, min K (k - 1 - i) = T := ⟨_, rfl⟩
          have he : min (K : Int) ((k : Int) - 1 - (i : Int)) = (T : Int) := by omega
          rw [eT] at HS
          have hT : T ≤ 2 := by omega
          clear eS eT
          go_wp2_with fail
          go_roundg (k - (i + 1))
          case rel => exact ⟨i + 1, by omega, by go_num, by rw [HS.out]; go_num, rfl⟩
          case measure => omega
        · have ei : i = k := by omega
          subst ei
          go_wp2_with fail
          refine HP.out.mono ?_
          rintro e w2 ⟨bo, d, rfl, hL, hf, hb⟩
          have HL := hid hL
          have HB2 : Hid (Below w.heap.size w w2) := HM.out.trans (hb.mono HM.out.size)
          obtain ⟨G, eG⟩ : ∃ G, L.length = G := ⟨_, rfl⟩
          have EG := hid eG
          rw [eG]
          have hG : (G : Int) = (sumW K i i : Nat) := by rw [← eG, HWant.out]
          have HG := hid hG
          have hGs := sumW_le K i hK2 i
          have hG40 : G ≤ 40 := by omega
          clear hL hf hb HP hG eG
          go_wp2_with fail
          go_loopg [74] G (fun g s74 wx => ∃ m : Nat, m + g = G ∧ s74 = .int .i64 m ∧ Hid (Below w2.heap.size w2 wx))
          case atStart => exact ⟨0, by omega, rfl, Below.refl _ _⟩
          case round =>
            obtain ⟨m, hm, rfl, HM3⟩ := hrel
            by_cases hlt3 : m < G
            · obtain ⟨p, ep⟩ : ∃ p, L[m]? = some p := ⟨_, List.getElem?_eq_getElem (by rw [EG.out]; exact hlt3)⟩
              obtain ⟨b, off, rfl, hbl, hLB⟩ := HL.out (by rw [EG.out]; omega)
              obtain ⟨p0, p1⟩ := p
              obtain ⟨a0, a1⟩ := ((hLB.below HM3.out hbl) m _ ep).p2
              obtain ⟨n1, n2, n3, n4⟩ := HNear.out _ (List.mem_of_getElem? ep)
              simp only [] at a0 a1 n1 n2 n3 n4
              have hbase3 : w2.heap.size ≤ wr.heap.size := HM3.out.size
              have hz1 : decide ((K : Int) < p1 - p0) = false := decide_eq_false (by omega)
              have hz2 : decide (p1 ≤ p0) = false := decide_eq_false (by omega)
              clear ep hLB
              go_wp2_with fail
              go_roundg (G - (m + 1))
              case rel => exact ⟨m + 1, by omega, by go_num, HM3.out.alloc hbase3 _⟩
              case measure => omega
            · go_wp2_with fail
              go_ret
              refine ⟨?_, HB2.out.trans (HM3.out.mono HB2.out.size)⟩
              have := HG.out
              simp [this]
end Go.Proofs.Ytmfkcdinfahjlaa.Fx
