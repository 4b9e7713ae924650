/- WoL WoK WoD WoV WoX -/
import Derived.Test.YtfncelifflebbaaGreatQ4
import Derived.Test.YtfncelifflebbaaGreatQ6
import Derived.Laws.IdiomCopy
import Derived.ArgAppend
import Derived.Lib.SliceRun
import Derived.BigQuiet
import Derived.Deep.LoopGhost
import Derived.LoopN
import Derived.WalkMore

/- Rows of elements that are written; append to a full slice; clear. -/





namespace Go.Proofs.YtfncelifflebbaaGreat.Fx
open Go.ChangeShapes Go.WideShapes Go.ChangeAt Go.RowKit
set_option linter.unusedVariables false

theorem Has.setCells {g : Nat} {t : TypeId} : ∀ (vs : List Value) (o : Nat) {w : World} {A : Array Value}, Has w g t A → ∃ A', Has (w.setCells g o vs) g t A' ∧ A'.size = A.size ∧ (∀ j, (j < o ∨ o + vs.length ≤ j) → A'[j]? = A[j]?) ∧ (∀ m v, vs[m]? = some v → o + m < A.size → A'[o + m]? = some v)
  | [], o, w, A, h => ⟨A, h, rfl, fun _ _ => rfl, fun m v hv => by simp at hv⟩
  | x :: vs, o, w, A, h => by
    obtain ⟨A', h1, h2, h3, h4⟩ := Has.setCells vs (o + 1) (h.put o x)
    refine ⟨A', h1, by rw [h2]; simp, fun j hj => ?_, fun m v hv hm => ?_⟩
    · rw [h3 j (by simp at hj; omega), Array.getElem?_setIfInBounds_ne (by simp at hj; omega)]
    · match m, hv with
      | 0, hv =>
        have e : x = v := by simpa using hv
        subst e
        rw [h3 (o + 0) (by omega)]
        simp [show o < A.size by omega]
      | m + 1, hv =>
        have := h4 m v (by simpa using hv) (by simp; omega)
        rw [← this]
        congr 1
        omega
theorem But.setCells {X : Nat → Prop} {g : Nat} (hg : X g) : ∀ (vs : List Value) (o : Nat) {a w : World}, But X a w → But X a (w.setCells g o vs)
  | [], _, _, _, h => h
  | x :: vs, o, a, w, h => But.setCells hg vs (o + 1) (h.put (p := ⟨g, o, none⟩) (.inl hg) x)
section
variable {α : Type} {enc : α → List Value} {k : Nat}
theorem LsB.newsL (hk : ∀ x, (enc x).length = k) {w : World} {b off : Nat} {l : List α} (h : LsB enc k w b off l) : ∀ j u, (flatE enc l)[j]? = some u → w.cell? ((⟨b, off, none⟩ : Addr).add j) = some u := fun j u hu => by
  rw [Addr.add_lit]
  exact LsT.flat_at hk h j u hu
/-- block g begins with these elements -/
def RowL (enc : α → List Value) (k : Nat) (w : World) (g : Nat) (t : TypeId) (n : Nat) (l : List α) : Prop :=
  l.length = n ∧ ∃ A, Has w g t A ∧ n * k ≤ A.size ∧ ∀ a x, l[a]? = some x → ∀ b v, (enc x)[b]? = some v → A[a * k + b]? = some v
variable {w v : World} {g n : Nat} {t : TypeId} {l : List α}
theorem RowL.here (h : RowL enc k w g t n l) : g < w.heap.size := by obtain ⟨_, A, hA, _⟩ := h; exact hA.here
theorem RowL.free (h : RowL enc k w g t n l) (i : Nat) : w.frozen? ⟨g, i, none⟩ = false := by obtain ⟨_, A, hA, _⟩ := h; exact hA.free i
theorem RowL.lsB (h : RowL enc k w g t n l) : LsB enc k w g 0 l := by
  obtain ⟨_, A, hA, _, h⟩ := h
  intro i x hx j u hu
  rw [Nat.zero_add, hA.at_]
  exact h i x hx j u hu
theorem RowL.lsT (h : RowL enc k w g t n l) : LsT enc k w (some ⟨g, 0, none⟩) l := fun _ => ⟨g, 0, rfl, h.here, h.lsB⟩
theorem RowL.but {X : Nat → Prop} (h : RowL enc k w g t n l) (kk : But X w v) (hx : ¬ X g) : RowL enc k v g t n l := by
  obtain ⟨h0, A, hA, h⟩ := h
  exact ⟨h0, A, hA.but kk hx, h⟩
theorem RowL.stays {B : Nat} (h : RowL enc k w g t n l) (kk : Made B w v) (hB : g < B) : RowL enc k v g t n l := by
  obtain ⟨h0, A, hA, h⟩ := h
  exact ⟨h0, A, hA.stays kk hB, h⟩
theorem RowL.set (hk : ∀ x, (enc x).length = k) (h : RowL enc k w g t n l) {i : Nat} (hi : i < n) (x : α) : RowL enc k (w.setCells g (i * k) (enc x)) g t n (l.set i x) := by
  obtain ⟨h0, A, hA, hs, h⟩ := h
  obtain ⟨A', h1, h2, h3, h4⟩ := Has.setCells (enc x) (i * k) hA
  refine ⟨by rw [List.length_set]; exact h0, A', h1, by rw [h2]; exact hs, fun a y hy b u hu => ?_⟩
  have hb : b < k := by rw [← hk y]; exact (List.getElem?_eq_some_iff.1 hu).1
  have han : a < n := by rw [← h0, ← List.length_set (i := i) (a := x)]; exact (List.getElem?_eq_some_iff.1 hy).1
  by_cases e : i = a
  · subst e
    rw [List.getElem?_set_self (by rw [h0]; exact hi)] at hy
    cases hy
    refine h4 b u hu ?_
    have := Nat.mul_le_mul_right k (show i + 1 ≤ n from hi)
    rw [Nat.add_mul, Nat.one_mul] at this
    omega
  · rw [List.getElem?_set_ne e] at hy
    rw [h3 (a * k + b) ?_]
    · exact h a y hy b u hu
    · rw [hk]
      rcases Nat.lt_or_gt_of_ne e with hh | hh
      · have := Nat.mul_le_mul_right k (show i + 1 ≤ a from hh)
        rw [Nat.add_mul, Nat.one_mul] at this
        omega
      · have := Nat.mul_le_mul_right k (show a + 1 ≤ i from hh)
        rw [Nat.add_mul, Nat.one_mul] at this
        omega
/-- a row that append has built -/
theorem RowL.of_own (hk : ∀ x, (enc x).length = k) {base n : Nat} {t : TypeId} {x : Value} (hn : l.length = n) (h : w.ownsRow base t k x n (flatE enc l)) (h0 : 0 < n) :
    ∃ g c, x = .slice (some ⟨g, 0, none⟩) n c ∧ base ≤ g ∧ n ≤ c ∧ c ≤ maxLen ∧ RowL enc k w g t n l := by
  rcases h.2 with ⟨_, e⟩ | ⟨g, cap, cur, hv, hb, hh, hc, hm, hs, ht⟩
  · omega
  · refine ⟨g, cap, hv, hb, hc, hm, hn, cur, hh, by rw [hs]; exact Nat.mul_le_mul_right k hc, fun i x hi j u hu => ?_⟩
    have hj : j < k := by rw [← hk x]; exact (List.getElem?_eq_some_iff.1 hu).1
    have hi' : i < l.length := (List.getElem?_eq_some_iff.1 hi).1
    have hlt : i * k + j < n * k := by
      have := Nat.mul_le_mul_right k (show i + 1 ≤ n by omega); rw [Nat.add_mul, Nat.one_mul] at this; omega
    have e := flatE_at hk l i x hi j hj
    rw [hu, ← ht, List.getElem?_take, if_pos hlt] at e
    simpa using e
end
section
variable {P : Program}
end
end Go.Proofs.YtfncelifflebbaaGreat.Fx


/- Clone, Clip and with over bodies, joints and contacts. -/





namespace Go.Proofs.YtfncelifflebbaaGreat.Fx
open Go.ChangeShapes Go.WideShapes Go.ChangeAt Go.RowKit
set_option linter.unusedVariables false

def SlOk (ao : Option Addr) (n c : Nat) : Prop := n ≤ c ∧ c ≤ maxLen ∧ ((ao = none ∧ n = 0 ∧ c = 0) ∨ ∃ b off, ao = some ⟨b, off, none⟩)
/-- a new list: it lies in a row of its own, made since w -/
structure NewL {α : Type} (enc : α → List Value) (k : Nat) (t : TypeId) (w v : World) (ao : Option Addr) (n c : Nat) (l : List α) : Prop where
  len : l.length = n
  ls : LsT enc k v ao l
  nc : n ≤ c
  cm : c ≤ maxLen
  ok : (ao = none ∧ n = 0 ∧ c = 0) ∨ ∃ b off, ao = some ⟨b, off, none⟩
  fresh : ∀ b off s, ao = some ⟨b, off, s⟩ → w.heap.size ≤ b
  row : 0 < n → ∃ g, ao = some ⟨g, 0, none⟩ ∧ RowL enc k v g t n l
def val1 (i g e : Nat) : Value := .slice (some ⟨g, 0, none⟩) 1 1
theorem infoB : (Tryz.prog.info? 35).map (fun i => (i.zero, i.size, i.bytes)) = some (some (.agg #[.int .i64 0, .int .i64 0, .int .i64 0, .int .i64 0, .int .i64 0, .int .i64 0, .int .i64 0, .int .i64 0, .int .i64 0, .int .i64 0, .slice none 0 0]), 11, 104) := by kernel_rfl
set_option maxRecDepth 100000 in
set_option maxHeartbeats 4000000 in
theorem cloneB_x {l : List Bd} {ao : Option Addr} {n c : Nat} {w : World} (hn : l.length = n) (hmx : n ≤ 1073741824) (hl : LsT encB 11 w ao l) (ho : SlOk ao n c) :
    Calls Tryz.prog 42 #[.slice ao n c] w fun e v => ∃ ao' c', e = .returned (.slice ao' n c') ∧ NewL encB 11 35 w v ao' n c' l ∧ Made w.heap.size w v ∧ (ao = none → ao' = none ∧ c' = 0) := by
  obtain ⟨i0, hi, hz0, hz1, hz2⟩ := info_parts infoB
  have iHi := hid hi; have iH0 := hid hz0; have iH1 := hid hz1; have iH2 := hid hz2
  have HN := hid hn
  clear hi hz0 hz1 hz2
  rcases ho.2.2 with ⟨rfl, rfl, rfl⟩ | ⟨b, off, rfl⟩
  · have q := fun W : World => Lib.run_eql_slice_nil (P := Tryz.prog) W 45 35 none 0 0 0 0 Tryz.underlying45
    clear hn hl
    go_enter Tryz.func42, Tryz.ntmps42
    go_wp2_with fail
    go_ret
    exact ⟨none, 0, rfl, ⟨HN.out, fun h => absurd h (by rw [HN.out]; omega), by omega, by unfold maxLen; omega, .inl ⟨rfl, rfl, rfl⟩, fun b off s e => (by cases e), fun h => absurd h (by omega)⟩, Made.rfl_ _ _, fun _ => ⟨rfl, rfl⟩⟩
  · have q := fun W : World => Lib.run_eql_slice_nil (P := Tryz.prog) W 45 35 (some ⟨b, off, none⟩) n c 0 0 Tryz.underlying45
    have HA : Hid (Made w.heap.size w (w.alloc (.cells #[] 35))) := (Made.rfl_ _ _).cells (Nat.le_refl _) _ _
    have HO : Hid ((w.alloc (.cells #[] 35)).ownsRow w.heap.size 35 11 (.slice (some ⟨w.heap.size, 0, none⟩) 0 0) 0 []) := World.ownsRow_lit w #[] 0 (Nat.le_refl _) (by unfold maxLen; omega) rfl
    rcases Nat.eq_zero_or_pos n with h0 | h0
    · subst h0
      clear hn hl
      go_enter Tryz.func42, Tryz.ntmps42
      go_wp2_with fail
      go_ret
      exact ⟨some ⟨w.heap.size, 0, none⟩, 0, rfl, ⟨HN.out, fun h => absurd h (by rw [HN.out]; omega), by omega, by unfold maxLen; omega, .inr ⟨_, _, rfl⟩, fun b off s e => (by cases e; exact Nat.le_refl _), fun h => absurd h (by omega)⟩, HA.out, fun e => (by cases e)⟩
    · obtain ⟨b', off', e, hbl, hLB⟩ := hl (by omega)
      cases e
      have HLB := hid hLB
      clear hn hl hLB
      go_enter Tryz.func42, Tryz.ntmps42
      go_wp2_with (at_builtin; refine wpList_append_made _ rfl (.tmp 5) (.tmp 6) 45 rfl w.heap.size 35 i0 (.agg #[.int .i64 0, .int .i64 0, .int .i64 0, .int .i64 0, .int .i64 0, .int .i64 0, .int .i64 0, .int .i64 0, .int .i64 0, .int .i64 0, .slice none 0 0]) 11 104 Tryz.underlying45 iHi.out iH0.out iH1.out iH2.out rfl (by decide) (.slice (some ⟨w.heap.size, 0, none⟩) 0 0) 0 [] rfl HO.out ⟨b, off, none⟩ n c (flatE encB l) rfl (by rw [flatE_len encB_len, HN.out]) (LsB.newsL encB_len (HLB.out.below HA.out.1 hbl)) (flatE_one encB_one l) (by unfold maxLen; omega) (by omega) (by simp) h0 ?_)
      intro v' w1 hown hg hf
      have hown : w1.ownsRow w.heap.size 35 11 v' n (flatE encB l) := by simpa using hown
      obtain ⟨g, c', rfl, hbg, hc, hm, hrow⟩ := RowL.of_own encB_len HN.out hown h0
      have M1 : Hid (Made w.heap.size w w1) := HA.out.app hg hf (by simp) (fun k hk => by simp [Value.ownBlock] at hk; omega)
      have HR := hid hrow
      clear hown hg hf hrow
      go_wp2_with fail
      go_ret
      exact ⟨some ⟨g, 0, none⟩, c', rfl, ⟨HN.out, HR.out.lsT, hc, hm, .inr ⟨_, _, rfl⟩, fun b off s e => (by cases e; exact hbg), fun _ => ⟨g, rfl, HR.out⟩⟩, M1.out, fun e => (by cases e)⟩
theorem cloneB_c {l : List Bd} {ao : Option Addr} {n c : Nat} {w : World} (hn : l.length = n) (hmx : n ≤ 1073741824) (hl : LsT encB 11 w ao l) (ho : SlOk ao n c) :
    Calls Tryz.prog 42 #[.slice ao n c] w fun e v => ∃ ao' c', e = .returned (.slice ao' n c') ∧ NewL encB 11 35 w v ao' n c' l ∧ Made w.heap.size w v :=
  (cloneB_x hn hmx hl ho).mono fun _ _ ⟨a, c, h1, h2, h3, _⟩ => ⟨a, c, h1, h2, h3⟩
theorem infoJ : (Tryz.prog.info? 60).map (fun i => (i.zero, i.size, i.bytes)) = some (some (.agg #[.int .i64 0, .int .i64 0, .int .i64 0, .int .i64 0, .int .i64 0, .int .i64 0, .int .i64 0, .int .i64 0]), 8, 64) := by kernel_rfl
theorem infoC : (Tryz.prog.info? 94).map (fun i => (i.zero, i.size, i.bytes)) = some (some (.agg #[.int .i64 0, .int .i64 0, .int .i64 0, .int .i64 0, .int .i64 0]), 5, 40) := by kernel_rfl
set_option maxRecDepth 100000 in
set_option maxHeartbeats 4000000 in
theorem cloneC_x {l : List Ct} {ao : Option Addr} {n c : Nat} {w : World} (hn : l.length = n) (hmx : n ≤ 1073741824) (hl : LsT encC 5 w ao l) (ho : SlOk ao n c) :
    Calls Tryz.prog 45 #[.slice ao n c] w fun e v => ∃ ao' c', e = .returned (.slice ao' n c') ∧ NewL encC 5 94 w v ao' n c' l ∧ Made w.heap.size w v ∧ (ao = none → ao' = none ∧ c' = 0) := by
  obtain ⟨i0, hi, hz0, hz1, hz2⟩ := info_parts infoC
  have iHi := hid hi; have iH0 := hid hz0; have iH1 := hid hz1; have iH2 := hid hz2
  have HN := hid hn
  clear hi hz0 hz1 hz2
  rcases ho.2.2 with ⟨rfl, rfl, rfl⟩ | ⟨b, off, rfl⟩
  · have q := fun W : World => Lib.run_eql_slice_nil (P := Tryz.prog) W 47 94 none 0 0 0 0 Tryz.underlying47
    clear hn hl
    go_enter Tryz.func45, Tryz.ntmps45
    go_wp2_with fail
    go_ret
    exact ⟨none, 0, rfl, ⟨HN.out, fun h => absurd h (by rw [HN.out]; omega), by omega, by unfold maxLen; omega, .inl ⟨rfl, rfl, rfl⟩, fun b off s e => (by cases e), fun h => absurd h (by omega)⟩, Made.rfl_ _ _, fun _ => ⟨rfl, rfl⟩⟩
  · have q := fun W : World => Lib.run_eql_slice_nil (P := Tryz.prog) W 47 94 (some ⟨b, off, none⟩) n c 0 0 Tryz.underlying47
    have HA : Hid (Made w.heap.size w (w.alloc (.cells #[] 94))) := (Made.rfl_ _ _).cells (Nat.le_refl _) _ _
    have HO : Hid ((w.alloc (.cells #[] 94)).ownsRow w.heap.size 94 5 (.slice (some ⟨w.heap.size, 0, none⟩) 0 0) 0 []) := World.ownsRow_lit w #[] 0 (Nat.le_refl _) (by unfold maxLen; omega) rfl
    rcases Nat.eq_zero_or_pos n with h0 | h0
    · subst h0
      clear hn hl
      go_enter Tryz.func45, Tryz.ntmps45
      go_wp2_with fail
      go_ret
      exact ⟨some ⟨w.heap.size, 0, none⟩, 0, rfl, ⟨HN.out, fun h => absurd h (by rw [HN.out]; omega), by omega, by unfold maxLen; omega, .inr ⟨_, _, rfl⟩, fun b off s e => (by cases e; exact Nat.le_refl _), fun h => absurd h (by omega)⟩, HA.out, fun e => (by cases e)⟩
    · obtain ⟨b', off', e, hbl, hLB⟩ := hl (by omega)
      cases e
      have HLB := hid hLB
      clear hn hl hLB
      go_enter Tryz.func45, Tryz.ntmps45
      go_wp2_with (at_builtin; refine wpList_append_made _ rfl (.tmp 5) (.tmp 6) 47 rfl w.heap.size 94 i0 (.agg #[.int .i64 0, .int .i64 0, .int .i64 0, .int .i64 0, .int .i64 0]) 5 40 Tryz.underlying47 iHi.out iH0.out iH1.out iH2.out rfl (by decide) (.slice (some ⟨w.heap.size, 0, none⟩) 0 0) 0 [] rfl HO.out ⟨b, off, none⟩ n c (flatE encC l) rfl (by rw [flatE_len encC_len, HN.out]) (LsB.newsL encC_len (HLB.out.below HA.out.1 hbl)) (flatE_one encC_one l) (by unfold maxLen; omega) (by omega) (by simp) h0 ?_)
      intro v' w1 hown hg hf
      have hown : w1.ownsRow w.heap.size 94 5 v' n (flatE encC l) := by simpa using hown
      obtain ⟨g, c', rfl, hbg, hc, hm, hrow⟩ := RowL.of_own encC_len HN.out hown h0
      have M1 : Hid (Made w.heap.size w w1) := HA.out.app hg hf (by simp) (fun k hk => by simp [Value.ownBlock] at hk; omega)
      have HR := hid hrow
      clear hown hg hf hrow
      go_wp2_with fail
      go_ret
      exact ⟨some ⟨g, 0, none⟩, c', rfl, ⟨HN.out, HR.out.lsT, hc, hm, .inr ⟨_, _, rfl⟩, fun b off s e => (by cases e; exact hbg), fun _ => ⟨g, rfl, HR.out⟩⟩, M1.out, fun e => (by cases e)⟩
def alB (x : Bd) (i : Nat) (v : World) (g e : Nat) : Prop := Has v g 35 (encB x).toArray
def alJ (x : Jt) (i : Nat) (v : World) (g e : Nat) : Prop := Has v g 60 (encJ x).toArray
end Go.Proofs.YtfncelifflebbaaGreat.Fx


/- DeleteFunc and without over bodies, joints and contacts. -/


namespace Go.Proofs.YtfncelifflebbaaGreat.Fx
open Go.ChangeShapes Go.WideShapes Go.ChangeAt Go.RowKit
set_option linter.unusedVariables false

/-- what lies in the row while elements are struck: j have been looked at, i of them stay -/
structure KInv {α : Type} (p : α → Bool) (l : List α) (j i : Nat) (d : List α) : Prop where
  fst : d.take i = (l.take j).filter fun x => !p x
  snd : d.drop j = l.drop j
theorem KInv.at_ {α : Type} {p : α → Bool} {l d : List α} {j i : Nat} (h : KInv p l j i d) (m : Nat) (hm : j ≤ m) : d[m]? = l[m]? := by
  have := congrArg (fun x => x[m - j]?) h.snd
  simp only [List.getElem?_drop] at this
  rwa [show j + (m - j) = m by omega] at this
theorem KInv.skip {α : Type} {p : α → Bool} {l d : List α} {j i : Nat} {y : α} (h : KInv p l j i d) (hy : l[j]? = some y) (hp : p y = true) : KInv p l (j + 1) i d := by
  refine ⟨?_, ?_⟩
  · rw [h.fst, List.take_add_one, hy, List.filter_append]
    simp [hp]
  · have := congrArg (List.drop 1) h.snd
    simpa [List.drop_drop] using this
def hitF {α : Type} (l : List α) (p : α → Bool) (i : Nat) : Bool := match l[i]? with | some x => p x | none => false
end Go.Proofs.YtfncelifflebbaaGreat.Fx


/- World variables; copies of shapes. -/


namespace Go.Proofs.YtfncelifflebbaaGreat.Fx
open Go.ChangeShapes Go.WideShapes Go.ChangeAt Go.RowKit
set_option linter.unusedVariables false

theorem set_size (w : World) (p : Addr) (u : Value) : (w.setCell p u).heap.size = w.heap.size := by simp [World.setCell]
/-! ### clone and copy of corners -/
set_option maxRecDepth 100000 in
set_option maxHeartbeats 2000000 in
theorem cloneV_nil (c : Nat) (w : World) (ao : Option Addr) (ho : (ao = none ∧ c = 0) ∨ ∃ a, ao = some a) : Calls Tryz.prog 82 #[.slice ao 0 c] w fun e v => e = .returned (.slice (ao.map fun _ => ⟨w.heap.size, 0, none⟩) 0 0) ∧ (∀ a, ao = some a → w.heap.size < v.heap.size) ∧ Made w.heap.size w v := by
  rcases ho with ⟨rfl, rfl⟩ | ⟨a, rfl⟩
  · have q := fun W : World => Lib.run_eql_slice_nil (P := Tryz.prog) W 25 24 none 0 0 0 0 Tryz.underlying25
    go_enter Tryz.func82, Tryz.ntmps82
    go_wp2_with fail
    go_ret
    exact ⟨rfl, fun a e => (by cases e), Made.rfl_ _ _⟩
  · have q := fun W : World => Lib.run_eql_slice_nil (P := Tryz.prog) W 25 24 (some a) 0 c 0 0 Tryz.underlying25
    go_enter Tryz.func82, Tryz.ntmps82
    go_wp2_with fail
    go_ret
    exact ⟨rfl, fun _ _ => (by simp), (Made.rfl_ _ _).cells (Nat.le_refl _) _ _⟩
set_option maxRecDepth 100000 in
set_option maxHeartbeats 2000000 in
theorem copyV_nil (K R : Int) (c : Nat) (w : World) (ao : Option Addr) (ho : (ao = none ∧ c = 0) ∨ ∃ a, ao = some a) : Calls Tryz.prog 43 #[shapeV K R (.slice ao 0 c)] w fun e v => e = .returned (shapeV K R (.slice (ao.map fun _ => ⟨w.heap.size + 2, 0, none⟩) 0 0)) ∧ (w.heap.size + 2 ≤ v.heap.size ∧ ∀ a, ao = some a → w.heap.size + 2 < v.heap.size) ∧ Made w.heap.size w v := by
  have HC := hid (fun w => cloneV_nil c w ao ho)
  clear ho
  obtain ⟨s, es⟩ : ∃ s, (ao.map fun _ => (⟨w.heap.size + 2, 0, none⟩ : Addr)) = s := ⟨_, rfl⟩
  rw [es]
  obtain ⟨W, eW⟩ : ∃ W, W = (w.alloc (.cells #[.int .i64 K, .int .i64 R, .slice ao 0 c] 27)).alloc (.cells #[.int .i64 0, .int .i64 0, .slice none 0 0] 27) := ⟨_, rfl⟩
  have hA : Has W w.heap.size 27 #[.int .i64 K, .int .i64 R, .slice ao 0 c] := by rw [eW]; exact (has_new _ _ _).more _
  have hB : Has W (w.heap.size + 1) 27 #[.int .i64 0, .int .i64 0, .slice none 0 0] := by rw [eW]; exact has_nxt' _ _ _ _
  have kW : Made w.heap.size w W := by rw [eW]; exact ((Made.rfl_ _ _).cells (Nat.le_refl _) _ _).cells (by simp) _ _
  have hsz : W.heap.size = w.heap.size + 2 := by rw [eW]; simp
  have HC := HC.out W
  rw [hsz, es] at HC
  have HCC := hid HC
  obtain ⟨g0, eg0⟩ : ∃ g, w.heap.size = g := ⟨_, rfl⟩
  obtain ⟨g1, eg1⟩ : ∃ g, g0 + 1 = g := ⟨_, rfl⟩
  have HA := hid hA; have HB := hid hB; have KW := hid kW
  rw [eg0] at HA
  rw [eg0, eg1] at HB
  have a0 := HA.out.at_ 0
  have a1 := HA.out.at_ 1
  have a2 := HA.out.at_ 2
  simp at a0 a1 a2
  have l0 : g0 < W.heap.size := HA.out.here
  have HSZ := hid hsz
  clear hA hB kW hsz HC es
  go_enter Tryz.func43, Tryz.ntmps43
  go_upto_region 1 with fail
  rw [← eW]
  clear eW
  try rw [eg0]
  try rw [eg1]
  go_wp2_with fail
  refine HCC.out.mono ?_
  rintro e w1 ⟨rfl, hs1, k1⟩
  have k1 : Made W.heap.size W w1 := by rw [HSZ.out]; exact k1
  have hA := HA.out.stays k1 HA.out.here
  have hB := HB.out.stays k1 HB.out.here
  have K1 := hid (KW.out.then_ (k1.low KW.out.1.size))
  have HSZ1 : Hid (w.heap.size + 2 ≤ w1.heap.size ∧ ∀ a, ao = some a → w.heap.size + 2 < w1.heap.size) := ⟨by rw [← HSZ.out]; exact k1.1.size, hs1⟩
  clear hs1
  have HA1 := hid hA; have HB1 := hid hB
  clear a0 a1 a2 l0 hA hB k1 HA HB
  have a0 := HA1.out.at_ 0
  have a1 := HA1.out.at_ 1
  have a2 := HA1.out.at_ 2
  simp at a0 a1 a2
  have l0 : g0 < w1.heap.size := HA1.out.here
  have f2 : w1.frozen? ⟨g0, 2, none⟩ = false := HA1.out.free 2
  have b0 := HB1.out.at_ 0
  have b1 := HB1.out.at_ 1
  have b2 := HB1.out.at_ 2
  simp at b0 b1 b2
  have l1 : g1 < w1.heap.size := HB1.out.here
  have fb : ∀ i, w1.frozen? ⟨g1, i, none⟩ = false := HB1.out.free
  have hne : ¬ g0 = g1 := by omega
  have hne' : ¬ g1 = g0 := by omega
  go_upto_region 2 with fail
  obtain ⟨V, eV⟩ : ∃ V, V = w1.setCell ⟨g0, 2, none⟩ (.slice s 0 0) := ⟨_, rfl⟩
  have HAV : Hid (Has V g0 27 #[.int .i64 K, .int .i64 R, .slice s 0 0]) := by unfold Hid; rw [eV]; exact HA1.out.put 2 _
  have HBV : Hid (Has V g1 27 #[.int .i64 0, .int .i64 0, .slice none 0 0]) := by unfold Hid; rw [eV]; exact HB1.out.other _ hne' _
  have KV : Hid (Made w.heap.size w V) := by unfold Hid; rw [eV]; exact K1.out.put (by rw [eg0]; exact Nat.le_refl _) _
  have HSV : Hid (w.heap.size + 2 ≤ V.heap.size ∧ ∀ a, ao = some a → w.heap.size + 2 < V.heap.size) := by unfold Hid; rw [eV, set_size]; exact HSZ1.out
  rw [← eV]
  clear eV a0 a1 a2 l0 f2 b0 b1 b2 l1 fb
  have a0 := HAV.out.at_ 0
  have a1 := HAV.out.at_ 1
  have a2 := HAV.out.at_ 2
  simp at a0 a1 a2
  have l0 : g0 < V.heap.size := HAV.out.here
  have b0 := HBV.out.at_ 0
  have b1 := HBV.out.at_ 1
  have b2 := HBV.out.at_ 2
  simp at b0 b1 b2
  have l1 : g1 < V.heap.size := HBV.out.here
  have fb : ∀ i, V.frozen? ⟨g1, i, none⟩ = false := HBV.out.free
  go_wp2_with fail
  obtain ⟨U, eU⟩ : ∃ U, U = ((V.setCell ⟨g1, 0, none⟩ (.int .i64 K)).setCell ⟨g1, 1, none⟩ (.int .i64 R)).setCell ⟨g1, 2, none⟩ (.slice s 0 0) := ⟨_, rfl⟩
  have hU : Has U g1 27 #[.int .i64 K, .int .i64 R, .slice s 0 0] := by rw [eU]; exact ((HBV.out.put 0 _).put 1 _).put 2 _
  have hw1 : w.heap.size ≤ g1 := by omega
  have kU : Made w.heap.size w U := by rw [eU]; exact ((KV.out.put hw1 _).put hw1 _).put hw1 _
  have hsU : w.heap.size + 2 ≤ U.heap.size ∧ ∀ a, ao = some a → w.heap.size + 2 < U.heap.size := by rw [eU, set_size, set_size, set_size]; exact HSV.out
  rw [← eU]
  have q0 := hU.at_ 0
  have q1 := hU.at_ 1
  have q2 := hU.at_ 2
  simp at q0 q1 q2
  exact bodyPost_ret (v := shapeV K R (.slice s 0 0)) (by simp [results, Tryz.results43, go_sem, q0, q1, q2]) rfl ⟨rfl, hsU, kU⟩
/-- where a copy's corners lie -/
def CopyW (ao : Nat → Option Addr) (ac : Nat → Nat) (n : Nat) : Prop := ((∀ g, ao g = none) ∧ n = 0 ∧ ∀ e, ac e = 0) ∨ ((∀ g, ao g = some ⟨g, 0, none⟩) ∧ ∀ e, n ≤ ac e ∨ ac e = e)
def CornersAt (w : World) (ao : Option Addr) (g n : Nat) (f : Cs) : Prop := Sl w ao n f ∧ (0 < n → Row w g 24 n f)
theorem CornersAt.kept {w v : World} {ao : Option Addr} {g n : Nat} {f : Cs} (h : CornersAt w ao g n f) (k : Made w.heap.size w v) : CornersAt v ao g n f :=
  ⟨fun hn => by obtain ⟨b, off, e, hp⟩ := h.1 hn; exact ⟨b, off, e, hp.kept k⟩, fun hn => (h.2 hn).kept k⟩
/-- the copy of a shape with its own corners -/
theorem copyV_c (K R : Int) (ao : Option Addr) (n cap : Nat) (f : Cs) (h8 : n ≤ 8) (ho : (ao = none ∧ n = 0 ∧ cap = 0) ∨ ∃ a, ao = some a) :
    ∃ ao' ac, CopyW ao' ac n ∧ ∀ w, Sl w ao n f → Calls Tryz.prog 43 #[shapeV K R (.slice ao n cap)] w fun e v => ∃ g e', e = .returned (shapeV K R (.slice (ao' g) n (ac e'))) ∧ w.heap.size ≤ g ∧ g < v.heap.size ∧ CornersAt v (ao' g) g n f ∧ Made w.heap.size w v := by
  rcases Nat.eq_zero_or_pos n with h0 | h0
  · subst h0
    rcases ho with ⟨rfl, _, rfl⟩ | ⟨a, rfl⟩
    · refine ⟨fun _ => none, fun _ => 0, .inl ⟨fun _ => rfl, rfl, fun _ => rfl⟩, fun w hs => (copyV_nil K R 0 w none (.inl ⟨rfl, rfl⟩)).mono ?_⟩
      rintro e v ⟨rfl, hsz, k⟩
      exact ⟨w.heap.size, 0, rfl, Nat.le_refl _, by have := hsz.1; omega, ⟨fun h => absurd h (by omega), fun h => absurd h (by omega)⟩, k⟩
    · refine ⟨fun g => some ⟨g, 0, none⟩, fun _ => 0, .inr ⟨fun _ => rfl, fun _ => .inl (Nat.le_refl _)⟩, fun w hs => (copyV_nil K R cap w (some a) (.inr ⟨a, rfl⟩)).mono ?_⟩
      rintro e v ⟨rfl, hsz, k⟩
      exact ⟨w.heap.size + 2, 0, rfl, by omega, hsz.2 a rfl, ⟨fun h => absurd h (by omega), fun h => absurd h (by omega)⟩, k⟩
  · refine ⟨fun g => some ⟨g, 0, none⟩, fun e => e, .inr ⟨fun _ => rfl, fun _ => .inr rfl⟩, fun w hs => ?_⟩
    obtain ⟨b, off, rfl, hp⟩ := hs h0
    refine (copy_is K R b off n cap f w h0 h8 hp).mono ?_
    rintro e v ⟨g, c, rfl, hg, hr, k⟩
    exact ⟨g, c, rfl, hg, hr.here, ⟨fun _ => ⟨g, 0, rfl, hr.pts⟩, fun _ => hr⟩, k⟩
end Go.Proofs.YtfncelifflebbaaGreat.Fx


/- AddBody. -/



namespace Go.Proofs.YtfncelifflebbaaGreat.Fx
open Go.ChangeShapes Go.WideShapes Go.ChangeAt Go.RowKit
set_option linter.unusedVariables false

/-- the lists of a world, apart from these blocks -/
structure WLs (X : Nat → Prop) (w : World) (ob : Option Addr) (cb : Nat) (B : List Bd) (oj : Option Addr) (cj : Nat) (J : List Jt) (oc : Option Addr) (cc : Nat) (C : List Ct) : Prop where
  at_ : WdAt w ob B oj J oc C
  okB : SlOk ob B.length cb
  okJ : SlOk oj J.length cj
  okC : SlOk oc C.length cc
  offB : 0 < B.length → Offs X ob
  offJ : 0 < J.length → Offs X oj
  offC : 0 < C.length → Offs X oc
  offP : ∀ b ∈ B, 0 < b.n → Offs X b.ao
  okP : ∀ b ∈ B, (b.ao = none ∧ b.n = 0 ∧ b.c = 0) ∨ ∃ a, b.ao = some a
theorem LsT.but' {α : Type} {enc : α → List Value} {k : Nat} {X : Nat → Prop} {w v : World} {ao : Option Addr} {l : List α} (h : LsT enc k w ao l) (kk : But X w v) (hx : 0 < l.length → Offs X ao) : LsT enc k v ao l := fun hl => h.but kk (hx hl) hl
theorem WLs.but {X Y : Nat → Prop} {w v : World} {ob oj oc : Option Addr} {cb cj cc : Nat} {B : List Bd} {J : List Jt} {C : List Ct} (h : WLs X w ob cb B oj cj J oc cc C) (k : But Y w v) (hY : ∀ b, Y b → X b) : WLs X v ob cb B oj cj J oc cc C :=
  have k : But X w v := k.up (fun b _ => hY b)
  ⟨⟨h.at_.lB.but' k h.offB, h.at_.lJ.but' k h.offJ, h.at_.lC.but' k h.offC, fun b hb => ⟨fun hn => (h.at_.sB b hb).1.but k (h.offP b hb hn) hn, (h.at_.sB b hb).2⟩, h.at_.iJ, h.at_.iC⟩, h.okB, h.okJ, h.okC, h.offB, h.offJ, h.offC, h.offP, h.okP⟩
theorem WLs.kept {X : Nat → Prop} {w v : World} {ob oj oc : Option Addr} {cb cj cc : Nat} {B : List Bd} {J : List Jt} {C : List Ct} (h : WLs X w ob cb B oj cj J oc cc C) (k : Made w.heap.size w v) : WLs X v ob cb B oj cj J oc cc C :=
  h.but (Y := Nil0) (Made.but k) (fun _ h => h.elim)
/-- a variable that holds a world -/
def WVar (X : Nat → Prop) (w : World) (gw : Nat) (tk nb nj gx gy : Int) (B : List Bd) (J : List Jt) (C : List Ct) : Prop :=
  ∃ ob oj oc cb cj cc, Has w gw 49 #[.int .i64 tk, .int .i64 nb, .int .i64 nj, .int .i64 gx, .int .i64 gy, .slice ob B.length cb, .slice oj J.length cj, .slice oc C.length cc] ∧ WLs X w ob cb B oj cj J oc cc C
/-- .. with the contacts' slice named -/
def WVarO (oc : Option Addr) (cc : Nat) (X : Nat → Prop) (w : World) (gw : Nat) (tk nb nj gx gy : Int) (B : List Bd) (J : List Jt) (C : List Ct) : Prop :=
  ∃ ob oj cb cj, Has w gw 49 #[.int .i64 tk, .int .i64 nb, .int .i64 nj, .int .i64 gx, .int .i64 gy, .slice ob B.length cb, .slice oj J.length cj, .slice oc C.length cc] ∧ WLs X w ob cb B oj cj J oc cc C
theorem WVarO.up {oc : Option Addr} {cc : Nat} {X : Nat → Prop} {w : World} {gw : Nat} {tk nb nj gx gy : Int} {B : List Bd} {J : List Jt} {C : List Ct} (h : WVarO oc cc X w gw tk nb nj gx gy B J C) : WVar X w gw tk nb nj gx gy B J C := by
  obtain ⟨ob, oj, cb, cj, hH, hL⟩ := h
  exact ⟨ob, oj, oc, cb, cj, cc, hH, hL⟩
theorem WVar.down {X : Nat → Prop} {w : World} {gw : Nat} {tk nb nj gx gy : Int} {B : List Bd} {J : List Jt} {C : List Ct} (h : WVar X w gw tk nb nj gx gy B J C) : ∃ oc cc, WVarO oc cc X w gw tk nb nj gx gy B J C := by
  obtain ⟨ob, oj, oc, cb, cj, cc, hH, hL⟩ := h
  exact ⟨oc, cc, ob, oj, cb, cj, hH, hL⟩
theorem WVarO.kept {oc : Option Addr} {cc : Nat} {X : Nat → Prop} {w v : World} {gw : Nat} {tk nb nj gx gy : Int} {B : List Bd} {J : List Jt} {C : List Ct} (h : WVarO oc cc X w gw tk nb nj gx gy B J C) (k : Made w.heap.size w v) : WVarO oc cc X v gw tk nb nj gx gy B J C := by
  obtain ⟨ob, oj, cb, cj, hH, hL⟩ := h
  exact ⟨ob, oj, cb, cj, hH.stays k hH.here, hL.kept k⟩
theorem WVar.kept {X : Nat → Prop} {w v : World} {gw : Nat} {tk nb nj gx gy : Int} {B : List Bd} {J : List Jt} {C : List Ct} (h : WVar X w gw tk nb nj gx gy B J C) (k : Made w.heap.size w v) : WVar X v gw tk nb nj gx gy B J C := by
  obtain ⟨ob, oj, oc, cb, cj, cc, hH, hL⟩ := h
  exact ⟨ob, oj, oc, cb, cj, cc, hH.stays k hH.here, hL.kept k⟩
theorem WVar.but {X Y : Nat → Prop} {w v : World} {gw : Nat} {tk nb nj gx gy : Int} {B : List Bd} {J : List Jt} {C : List Ct} (h : WVar X w gw tk nb nj gx gy B J C) (k : But Y w v) (hY : ∀ b, Y b → X b) (hg : ¬ Y gw) : WVar X v gw tk nb nj gx gy B J C := by
  obtain ⟨ob, oj, oc, cb, cj, cc, hH, hL⟩ := h
  exact ⟨ob, oj, oc, cb, cj, cc, hH.but k hg, hL.but k hY⟩
theorem WVar.here {X : Nat → Prop} {w : World} {gw : Nat} {tk nb nj gx gy : Int} {B : List Bd} {J : List Jt} {C : List Ct} (h : WVar X w gw tk nb nj gx gy B J C) : gw < w.heap.size := by
  obtain ⟨ob, oj, oc, cb, cj, cc, hH, hL⟩ := h
  exact hH.here
/-- what AddBody has made: a copy of the shape's corners -/
def alS (ao : Nat → Option Addr) (n : Nat) (f : Cs) (i : Nat) (v : World) (g e : Nat) : Prop := CornersAt v (ao g) g n f
theorem alS_lasts (ao : Nat → Option Addr) (n : Nat) (f : Cs) : MK.Lasts (alS ao n f) := fun i u v g e h hg k => CornersAt.kept h k
def valS (K R : Int) (ao : Nat → Option Addr) (n : Nat) (ac : Nat → Nat) (i g e : Nat) : Value := shapeV K R (.slice (ao g) n (ac e))
/-- a new row of elements -/
def alW {α : Type} (enc : α → List Value) (k : Nat) (t : TypeId) (n : Nat) (l : List α) (i : Nat) (v : World) (g e : Nat) : Prop := RowL enc k v g t n l ∧ n ≤ e ∧ e ≤ maxLen
def valW (n i g e : Nat) : Value := .slice (some ⟨g, 0, none⟩) n e
theorem right_n {K R : Int} {n : Nat} {f : Cs} (h : RightP K R n f) : n ≤ 8 := by
  rcases h with h | h
  · omega
  · exact h.2.2.2.1
/-- what AddBody answers, and leaves -/
def AddedB (X : Nat → Prop) (w : World) (gw : Nat) (tk nb nj gx gy : Int) (B : List Bd) (J : List Jt) (C : List Ct) (b : Bd) (e : Ending) (v : World) : Prop :=
  (¬ BodyP b ∧ e = .returned (.tuple #[.int .i64 0, .int .i64 2]) ∧ Made w.heap.size w v) ∨
  (BodyP b ∧ (1024 ≤ B.length ∨ 4611686018427387904 ≤ nb) ∧ e = .returned (.tuple #[.int .i64 0, .int .i64 3]) ∧ Made w.heap.size w v) ∨
  (BodyP b ∧ B.length < 1024 ∧ nb < 4611686018427387904 ∧ e = .returned (.tuple #[.int .i64 nb, .int .i64 0]) ∧ But (fun g => g = gw) w v ∧
    ∃ ao c, WVar X v gw tk (nb + 1) nj gx gy (B ++ [⟨nb, b.x, b.y, b.vx, b.vy, b.an, b.sp, b.de, b.k, b.r, ao, b.n, c, b.f⟩]) J C)
def AddedBO (oc : Option Addr) (cc : Nat) (X : Nat → Prop) (w : World) (gw : Nat) (tk nb nj gx gy : Int) (B : List Bd) (J : List Jt) (C : List Ct) (b : Bd) (e : Ending) (v : World) : Prop :=
  (¬ BodyP b ∧ e = .returned (.tuple #[.int .i64 0, .int .i64 2]) ∧ Made w.heap.size w v) ∨
  (BodyP b ∧ (1024 ≤ B.length ∨ 4611686018427387904 ≤ nb) ∧ e = .returned (.tuple #[.int .i64 0, .int .i64 3]) ∧ Made w.heap.size w v) ∨
  (BodyP b ∧ B.length < 1024 ∧ nb < 4611686018427387904 ∧ e = .returned (.tuple #[.int .i64 nb, .int .i64 0]) ∧ But (fun g => g = gw) w v ∧
    ∃ ao c, WVarO oc cc X v gw tk (nb + 1) nj gx gy (B ++ [⟨nb, b.x, b.y, b.vx, b.vy, b.an, b.sp, b.de, b.k, b.r, ao, b.n, c, b.f⟩]) J C)
end Go.Proofs.YtfncelifflebbaaGreat.Fx

