/- Package pack: a reader reads a number, a count. -/
import Derived.Test.YtfkggnlefblniaaDoorPaB
namespace Go.Proofs.YtfkggnlefblniaaDoor.Fx
open Go.ChangeShapes Go.WideShapes Go.ChangeAt Go.RowKit
set_option linter.unusedVariables false

theorem Re.less {w : World} {pb n c m b off off' c' : Nat} {f : Nat → Nat} (h : Re w pb (some ⟨b, off, none⟩) n c f) (hm : m ≤ n) (hc : n - m ≤ c') (ht : c' ≤ maxLen) (ho : off' = off + m ∨ n ≤ m) :
    Re (w.setCell ⟨pb, 0, none⟩ (.slice (some ⟨b, off', none⟩) (n - m) c')) pb (some ⟨b, off', none⟩) (n - m) c' (fun i => f (m + i)) := by
  have hl := h.here
  have c0 := h.c0
  have c1 := h.c1
  have z0 := h.z0
  have z1 := h.z1
  have hb : b ≠ pb := h.off b off rfl
  refine ⟨?_, ?_, ?_, ?_, ?_, hc, ht, fun b' off' e => by cases e; exact hb⟩
  · go_simp
  · go_simp
  · go_simp
  · go_simp
  · rcases ho with rfl | ho
    · exact (h.by_.drop m).on1 ((On1.rfl_ pb w).put 0 _) fun b' off' e => by cases e; exact hb
    · intro hp
      omega
set_option maxRecDepth 100000 in
set_option maxHeartbeats 4000000 in
theorem rnum_c {pb m n c : Nat} {ao : Option Addr} {f : Nat → Nat} {w : World} (h : Re w pb ao n c f) (hf : ∀ i, f i < 256) (hm : m ≤ 8) (h0 : 0 < m) (hs : m ≤ n) :
    Calls Tryd.prog 31 #[.pointer (some ⟨pb, 0, none⟩), .int .i64 (m : Nat)] w fun e w' => e = .returned (.int .i64 (valI f m)) ∧ (∃ ao' c', Re w' pb ao' (n - m) c' fun i => f (m + i)) ∧ On1 pb w w' := by
  have hmax : max (m : Int) 0 = (m : Int) := by omega
  have hmin : min (m : Int) 8 = (m : Int) := by omega
  obtain ⟨b, off, rfl, hby⟩ := h.by_ (by omega)
  have c0 := h.c0
  have hle := h.le
  have hc := h.top
  unfold maxLen at hc
  have hlt : decide ((m : Int) > (n : Int)) = false := decide_eq_false (by omega)
  have hlt0 : decide (n < m) = false := decide_eq_false (by omega)
  have H := hid (rbad_c h)
  have HB := hid hby
  have HF := hid hf
  have HE := hid h
  have z0 := h.z0
  clear h hby hf
  go_enter Tryd.func31, Tryd.ntmps31
  go_wp2_with fail
  refine H.out.mono ?_
  rintro e w1 ⟨rfl, rfl⟩
  go_wp2_with fail
  go_loopg [5, 31] m (fun g x i wx => ∃ k : Nat, k + g = m ∧ i = .int .i64 (k : Nat) ∧ x = .int .i64 (valI f k) ∧ Hid (w = wx))
  case atStart => exact ⟨0, by omega, by first | rfl | trivial, rfl, rfl⟩
  case round =>
    obtain ⟨k, hk, rfl, rfl, HW⟩ := hrel
    have hW := HW.out
    subst hW
    obtain ⟨r, er⟩ : ∃ r, valI f k = r := ⟨_, rfl⟩
    rw [er]
    by_cases hkm : k < m
    · have c2 := HB.out k (by omega)
      obtain ⟨x, ex⟩ : ∃ x, f k = x := ⟨_, rfl⟩
      have lx : x < 256 := by rw [← ex]; exact HF.out k
      rw [ex] at c2
      have HN : Hid (valI f (k + 1) = bits .or .i64 r (wrap64 ((x : Int) * 2 ^ (8 * k)))) := by
        unfold Hid
        show bits .or .i64 (valI f k) (wrap64 ((f k : Int) * 2 ^ (8 * k))) = _
        rw [er, ex]
      clear er ex
      go_wp2_with fail
      go_roundg (m - k - 1)
      case rel => exact ⟨k + 1, by omega, by go_num, by rw [HN.out], rfl⟩
      case measure => omega
    · have e : k = m := by omega
      subst e
      have HR := hid er
      clear er
      go_wp2_with fail
      · go_ret
        exact ⟨cret_i HR.out.symm, ⟨_, _, HE.out.less hs (by omega) (by unfold maxLen; omega) (by first | exact .inl rfl | exact .inr (by omega))⟩, (On1.rfl_ pb w).put 0 _⟩
      · go_ret
        exact ⟨cret_i HR.out.symm, ⟨_, _, HE.out.less hs (by omega) (by unfold maxLen; omega) (by first | exact .inl rfl | exact .inr (by omega))⟩, (On1.rfl_ pb w).put 0 _⟩
theorem i64_or_nat (a b : Nat) (ha : a < 2 ^ 63) (hb : b < 2 ^ 63) : bits .or .i64 (a : Int) (b : Int) = ((a ||| b : Nat) : Int) := by
  unfold bits
  show IntKind.i64.wrap ((BitVec.ofInt 64 a ||| BitVec.ofInt 64 b).toNat : Int) = _
  have h : a ||| b < 2 ^ 63 := Nat.or_lt_two_pow ha hb
  rw [BitVec.toNat_or, BitVec.ofInt_natCast, BitVec.ofInt_natCast, BitVec.toNat_ofNat, BitVec.toNat_ofNat, Nat.mod_eq_of_lt (by omega), Nat.mod_eq_of_lt (by omega), IntKind.wrap_i64]
  omega
theorem wrap64_small (x : Int) (h1 : -9223372036854775808 ≤ x) (h2 : x ≤ 9223372036854775807) : wrap64 x = x := by
  have := IntKind.wrap_i64 x
  unfold IntKind.wrap at this
  simp only [wrap64] at *
  omega
/-- the reader's count: too great, or lacking, it fails -/
theorem valI_two (f : Nat → Nat) (hf : ∀ i, f i < 256) : valI f 2 = ((f 0 + 256 * f 1 : Nat) : Int) := by
  have h0 := hf 0
  have h1 := hf 1
  show bits .or .i64 (bits .or .i64 0 (wrap64 ((f 0 : Int) * 2 ^ 0))) (wrap64 ((f 1 : Int) * 2 ^ 8)) = _
  rw [wrap64_small _ (by omega) (by omega), wrap64_small _ (by omega) (by omega), show ((f 0 : Int) * 2 ^ 0) = ((f 0 : Nat) : Int) by omega, show ((f 1 : Int) * 2 ^ 8) = ((256 * f 1 : Nat) : Int) by omega,
    show (0 : Int) = ((0 : Nat) : Int) from rfl, i64_or_nat 0 _ (by omega) (by omega), Nat.zero_or, i64_or_nat _ _ (by omega) (by omega), Nat.or_comm]
  have := Nat.two_pow_add_eq_or_of_lt (i := 8) (b := f 0) (by omega) (f 1)
  rw [show (256 : Nat) = 2 ^ 8 from rfl, ← this]
  omega
end Go.Proofs.YtfkggnlefblniaaDoor.Fx
