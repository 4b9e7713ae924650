/- Contracts of package shape: Right. -/
import Derived.Test.YtekcehhoimhjeaaShapeA
namespace Go.Proofs.Ytekcehhoimhjeaa.Fx
open Go.ChangeShapes Go.WideShapes Go.ChangeAt Go.RowKit
set_option linter.unusedVariables false

theorem yes_iff {p : Prop} (h : p) : true = true ↔ p := ⟨fun _ => h, fun _ => rfl⟩
theorem no_iff {p : Prop} (h : ¬ p) : false = true ↔ p := ⟨fun h => (by cases h), fun k => absurd k h⟩
/-- a shape as a value -/
abbrev shapeV (K R : Int) (s : Value) : Value := .agg #[.int .i64 K, .int .i64 R, s]
/-- the corners of a slice, where there are any -/
def Sl (w : World) (ao : Option Addr) (n : Nat) (f : Cs) : Prop := 0 < n → ∃ b off, ao = some ⟨b, off, none⟩ ∧ Pts w b off n f
theorem Sl.kept {w v : World} {ao : Option Addr} {n : Nat} {f : Cs} (h : Sl w ao n f) (k : Made w.heap.size w v) : Sl v ao n f := fun h0 => by
  obtain ⟨b, off, e, p⟩ := h h0
  exact ⟨b, off, e, p.kept k⟩

set_option maxRecDepth 100000 in
set_option maxHeartbeats 2000000 in
theorem right_circle (R : Int) (ao : Option Addr) (n cap : Nat) (f : Cs) (w : World) (r : Bool) (hr : r = true ↔ RightP 1 R n f) :
    Calls Try.prog 9 #[shapeV 1 R (.slice ao n cap)] w fun e w' => e = .returned (.bool r) ∧ Made w.heap.size w w' := by
  have HR : Hid (r = decide (n = 0 ∧ 16777216 ≤ R ∧ R ≤ 274877906944)) := by
    unfold Hid
    rw [Bool.eq_iff_iff, hr, decide_eq_true_iff]
    constructor
    · rintro (h | h)
      · exact h.2
      · omega
    · intro h; exact .inl ⟨rfl, h⟩
  clear hr
  by_cases h1 : 16777216 ≤ R
  · by_cases h2 : R ≤ 274877906944
    · by_cases h3 : n = 0
      · subst h3
        have HT : Hid (r = true) := HR.out.trans (decide_eq_true ⟨rfl, h1, h2⟩)
        go_enter Try.func9, Try.ntmps9
        go_wp2_with fail
        go_ret
        exact ⟨by rw [HT.out]; rfl, (Made.rfl_ _ _).cells (Nat.le_refl _) _ _⟩
      · have h3' : ((n : Int) == 0) = false := by simpa using h3
        have HT : Hid (r = false) := HR.out.trans (decide_eq_false (fun h => h3 h.1))
        go_enter Try.func9, Try.ntmps9
        go_wp2_with fail
        go_ret
        exact ⟨by rw [HT.out]; rfl, (Made.rfl_ _ _).cells (Nat.le_refl _) _ _⟩
    · have HT : Hid (r = false) := HR.out.trans (decide_eq_false (fun h => h2 h.2.2))
      go_enter Try.func9, Try.ntmps9
      go_wp2_with fail
      go_ret
      exact ⟨by rw [HT.out]; rfl, (Made.rfl_ _ _).cells (Nat.le_refl _) _ _⟩
  · have HT : Hid (r = false) := HR.out.trans (decide_eq_false (fun h => h1 h.2.1))
    go_enter Try.func9, Try.ntmps9
    go_wp2_with fail
    go_ret
    exact ⟨by rw [HT.out]; rfl, (Made.rfl_ _ _).cells (Nat.le_refl _) _ _⟩

set_option maxRecDepth 100000 in
set_option maxHeartbeats 2000000 in
theorem right_none (K R : Int) (ao : Option Addr) (n cap : Nat) (f : Cs) (w : World) (h1 : K ≠ 1) (h2 : ¬ (K = 2 ∧ R = 0 ∧ 3 ≤ n ∧ n ≤ 8)) (r : Bool) (hr : r = true ↔ RightP K R n f) :
    Calls Try.prog 9 #[shapeV K R (.slice ao n cap)] w fun e w' => e = .returned (.bool r) ∧ Made w.heap.size w w' := by
  have HR : Hid (r = false) := by
    unfold Hid
    rw [Bool.eq_false_iff]
    intro h
    rcases hr.1 h with h | h
    · exact h1 h.1
    · exact h2 ⟨h.1, h.2.1, h.2.2.1, h.2.2.2.1⟩
  clear hr
  have k1 : (K == 1) = false := by simpa using h1
  by_cases hK : K = 2
  · subst hK
    clear h1 k1
    by_cases hR : R = 0
    · subst hR
      by_cases hn : 3 ≤ n
      · have h8 : ¬ n ≤ 8 := fun h => h2 ⟨rfl, rfl, hn, h⟩
        clear h2
        go_enter Try.func9, Try.ntmps9
        go_wp2_with fail
        go_ret
        exact ⟨by rw [HR.out]; rfl, (Made.rfl_ _ _).cells (Nat.le_refl _) _ _⟩
      · clear h2
        go_enter Try.func9, Try.ntmps9
        go_wp2_with fail
        go_ret
        exact ⟨by rw [HR.out]; rfl, (Made.rfl_ _ _).cells (Nat.le_refl _) _ _⟩
    · have k2 : (R == 0) = false := by simpa using hR
      clear h2 hR
      go_enter Try.func9, Try.ntmps9
      go_wp2_with fail
      go_ret
      exact ⟨by rw [HR.out]; rfl, (Made.rfl_ _ _).cells (Nat.le_refl _) _ _⟩
  · have k2 : (K == 2) = false := by simpa using hK
    clear h1 h2 hK
    go_enter Try.func9, Try.ntmps9
    go_wp2_with fail
    go_ret
    exact ⟨by rw [HR.out]; rfl, (Made.rfl_ _ _).cells (Nat.le_refl _) _ _⟩

set_option maxRecDepth 100000 in
set_option maxHeartbeats 2000000 in
theorem right_poly (b off n cap : Nat) (f : Cs) (w : World) (h3 : 3 ≤ n) (h8 : n ≤ 8) (hp : Pts w b off n f) (hi : Cin f n) (r : Bool) (hr : r = true ↔ RightP 2 0 n f) :
    Calls Try.prog 9 #[shapeV 2 0 (.slice (some ⟨b, off, none⟩) n cap)] w fun e w' => e = .returned (.bool r) ∧ Made w.heap.size w w' := by
  have HP : Hid (∀ v, Made w.heap.size w v → Pts v b off n f) := fun v k => hp.kept k
  have HI := hid hi
  clear hp hi
  have HR : Hid (r = true ↔ (∀ i, i < n → NearP (f i)) ∧ CvxP f n) := by
    refine hr.trans ⟨?_, fun h => .inr ⟨rfl, rfl, h3, h8, h.1, h.2⟩⟩
    rintro (h | h)
    · omega
    · exact ⟨h.2.2.2.2.1, h.2.2.2.2.2⟩
  clear hr
  by_cases hN : ∀ i, i < n → NearP (f i)
  · have HN := hid hN
    have HC : Hid (r = true ↔ CvxP f n) := HR.out.trans ⟨fun h => h.2, fun h => ⟨hN, h⟩⟩
    clear hN
    go_enter Try.func9, Try.ntmps9
    go_wp2_with fail
    refine (near_is b off n cap f _ h8 (HP.out _ ((Made.rfl_ _ _).cells (Nat.le_refl _) _ _)) HI.out true ⟨fun _ => HN.out, fun _ => rfl⟩).mono ?_
    rintro e w1 ⟨rfl, k1⟩
    have x0 := k1.reads (p := ⟨w.heap.size, 2, none⟩) (x := .slice (some ⟨b, off, none⟩) n cap) (by go_simp)
    have M1 := hid (made_box k1)
    clear k1
    go_wp2_with fail
    refine (convex_is b off n cap f _ h3 h8 (HP.out _ M1.out) HI.out r HC.out).mono ?_
    rintro e w2 ⟨rfl, k2⟩
    have M2 := hid (M1.out.then_ (k2.low M1.out.1.size))
    clear k2
    go_wp2_with fail
    go_ret
    exact ⟨by cases r <;> rfl, M2.out⟩
  · have HN := hid hN
    have HF : Hid (r = false) := Bool.eq_false_iff.2 fun h => hN (HR.out.1 h).1
    clear hN
    go_enter Try.func9, Try.ntmps9
    go_wp2_with fail
    refine (near_is b off n cap f _ h8 (HP.out _ ((Made.rfl_ _ _).cells (Nat.le_refl _) _ _)) HI.out false ⟨fun h => (by cases h), fun h => absurd h HN.out⟩).mono ?_
    rintro e w1 ⟨rfl, k1⟩
    have M1 := hid (made_box k1)
    clear k1
    go_wp2_with fail
    go_ret
    exact ⟨by rw [HF.out]; rfl, M1.out⟩

/-- Right, of whatever shape -/
theorem right_is (K R : Int) (ao : Option Addr) (n cap : Nat) (f : Cs) (w : World) (hs : Sl w ao n f) (hi : Cin f n) (r : Bool) (hr : r = true ↔ RightP K R n f) :
    Calls Try.prog 9 #[shapeV K R (.slice ao n cap)] w fun e w' => e = .returned (.bool r) ∧ Made w.heap.size w w' := by
  by_cases h1 : K = 1
  · subst h1; exact right_circle R ao n cap f w r hr
  · by_cases h2 : K = 2 ∧ R = 0 ∧ 3 ≤ n ∧ n ≤ 8
    · obtain ⟨rfl, rfl, h3, h8⟩ := h2
      obtain ⟨b, off, rfl, hp⟩ := hs (by omega)
      exact right_poly b off n cap f w h3 h8 hp hi r hr
    · exact right_none K R ao n cap f w h1 h2 r hr
end Go.Proofs.Ytekcehhoimhjeaa.Fx
