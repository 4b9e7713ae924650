/- world.Copy. -/
import Derived.Test.YtggpchclfikneaaWoX
import Derived.BigQuiet
import Derived.Deep.LoopGhost
import Derived.LoopN
import Derived.WalkMore
namespace Go.Proofs.Ytggpchclfikneaa.Fx
open Go.ChangeShapes Go.WideShapes Go.ChangeAt Go.RowKit
set_option linter.unusedVariables false

theorem own_but {X : Nat → Prop} {w v : World} {base base' : Nat} {t : TypeId} {size n : Nat} {x : Value} {xs : List Value} (h : w.ownsRow base t size x n xs) (k : But X w v) (hx : ∀ g, x.ownBlock = some g → ¬ X g) (hb : base' ≤ base) : v.ownsRow base' t size x n xs := by
  obtain ⟨h1, h2⟩ := h
  refine ⟨h1, h2.imp id ?_⟩
  rintro ⟨g, cap, cur, e, hg, hh, r⟩
  have hlt : g < w.heap.size := Has.here (t := t) (cs := cur) hh
  exact ⟨g, cap, cur, e, Nat.le_trans hb hg, (k.block g hlt (hx g (by rw [e]; rfl))).trans hh, r⟩
set_option maxRecDepth 100000 in
set_option maxHeartbeats 4000000 in
theorem cloneJo_c {l : List Jt} {ao : Option Addr} {n c : Nat} {w : World} (hn : l.length = n) (hmx : n ≤ 1073741824) (hl : LsT encJ 8 w ao l) (ho : SlOk ao n c) :
    Calls Try.prog 73 #[.slice ao n c] w fun e v => ∃ ao' c', e = .returned (.slice ao' n c') ∧ NewL encJ 8 51 w v ao' n c' l ∧ v.ownsRow w.heap.size 51 8 (.slice ao' n c') n (flatE encJ l) ∧ Made w.heap.size w v := by
  obtain ⟨i0, hi, hz0, hz1, hz2⟩ := info_parts infoJ
  have iHi := hid hi; have iH0 := hid hz0; have iH1 := hid hz1; have iH2 := hid hz2
  have HN := hid hn
  clear hi hz0 hz1 hz2
  rcases ho.2.2 with ⟨rfl, rfl, rfl⟩ | ⟨b, off, rfl⟩
  · have q := fun W : World => Lib.run_eql_slice_nil (P := Try.prog) W 28 51 none 0 0 0 0 Try.underlying28
    clear hn hl
    go_enter Try.func73, Try.ntmps73
    go_wp2_with fail
    go_ret
    exact ⟨none, 0, rfl, ⟨HN.out, fun h => absurd h (by rw [HN.out]; omega), by omega, by unfold maxLen; omega, .inl ⟨rfl, rfl, rfl⟩, fun b off s e => (by cases e), fun h => absurd h (by omega)⟩, by rw [List.length_eq_zero_iff.1 HN.out]; exact World.ownsRow_nil _ _ _ _, Made.rfl_ _ _⟩
  · have q := fun W : World => Lib.run_eql_slice_nil (P := Try.prog) W 28 51 (some ⟨b, off, none⟩) n c 0 0 Try.underlying28
    have HA : Hid (Made w.heap.size w (w.alloc (.cells #[] 51))) := (Made.rfl_ _ _).cells (Nat.le_refl _) _ _
    have HO : Hid ((w.alloc (.cells #[] 51)).ownsRow w.heap.size 51 8 (.slice (some ⟨w.heap.size, 0, none⟩) 0 0) 0 []) := World.ownsRow_lit w #[] 0 (Nat.le_refl _) (by unfold maxLen; omega) rfl
    rcases Nat.eq_zero_or_pos n with h0 | h0
    · subst h0
      clear hn hl
      go_enter Try.func73, Try.ntmps73
      go_wp2_with fail
      go_ret
      exact ⟨some ⟨w.heap.size, 0, none⟩, 0, rfl, ⟨HN.out, fun h => absurd h (by rw [HN.out]; omega), by omega, by unfold maxLen; omega, .inr ⟨_, _, rfl⟩, fun b off s e => (by cases e; exact Nat.le_refl _), fun h => absurd h (by omega)⟩, by rw [List.length_eq_zero_iff.1 HN.out]; exact HO.out, HA.out⟩
    · obtain ⟨b', off', e, hbl, hLB⟩ := hl (by omega)
      cases e
      have HLB := hid hLB
      clear hn hl hLB
      go_enter Try.func73, Try.ntmps73
      go_wp2_with (at_builtin; refine wpList_append_made _ rfl (.tmp 5) (.tmp 6) 28 rfl w.heap.size 51 i0 (.agg #[.int .i64 0, .int .i64 0, .int .i64 0, .int .i64 0, .int .i64 0, .int .i64 0, .int .i64 0, .int .i64 0]) 8 64 Try.underlying28 iHi.out iH0.out iH1.out iH2.out rfl (by decide) (.slice (some ⟨w.heap.size, 0, none⟩) 0 0) 0 [] rfl HO.out ⟨b, off, none⟩ n c (flatE encJ l) rfl (by rw [flatE_len encJ_len, HN.out]) (LsB.newsL encJ_len (HLB.out.below HA.out.1 hbl)) (flatE_one encJ_one l) (by unfold maxLen; omega) (by omega) (by simp) h0 ?_)
      intro v' w1 hown hg hf
      have hown : w1.ownsRow w.heap.size 51 8 v' n (flatE encJ l) := by simpa using hown
      obtain ⟨g, c', rfl, hbg, hc, hm, hrow⟩ := RowL.of_own encJ_len HN.out hown h0
      have HOw := hid hown
      have M1 : Hid (Made w.heap.size w w1) := HA.out.app hg hf (by simp) (fun k hk => by simp [Value.ownBlock] at hk; omega)
      have HR := hid hrow
      clear hown hg hf hrow
      go_wp2_with fail
      go_ret
      exact ⟨some ⟨g, 0, none⟩, c', rfl, ⟨HN.out, HR.out.lsT, hc, hm, .inr ⟨_, _, rfl⟩, fun b off s e => (by cases e; exact hbg), fun _ => ⟨g, rfl, HR.out⟩⟩, HOw.out, M1.out⟩
section
variable {α : Type} {enc : α → List Value} {k : Nat} {w : World} {g n : Nat} {t : TypeId} {l : List α}
/-- a part of one element is overwritten -/
theorem RowL.part (hk : ∀ x, (enc x).length = k) (h : RowL enc k w g t n l) {i : Nat} {x x' : α} (hx : l[i]? = some x) (s : Nat) (vs : List Value) (hs : s + vs.length ≤ k)
    (hp : ∀ b v, (enc x')[b]? = some v → if s ≤ b ∧ b < s + vs.length then vs[b - s]? = some v else (enc x)[b]? = some v) : RowL enc k (w.setCells g (i * k + s) vs) g t n (l.set i x') := by
  obtain ⟨h0, A, hA, hz, h⟩ := h
  have hi : i < n := by rw [← h0]; exact (List.getElem?_eq_some_iff.1 hx).1
  obtain ⟨A', h1, h2, h3, h4⟩ := Has.setCells vs (i * k + s) hA
  have him := Nat.mul_le_mul_right k (show i + 1 ≤ n from hi)
  rw [Nat.add_mul, Nat.one_mul] at him
  refine ⟨by rw [List.length_set]; exact h0, A', h1, by rw [h2]; exact hz, fun a y hy b u hu => ?_⟩
  have hb : b < k := by rw [← hk y]; exact (List.getElem?_eq_some_iff.1 hu).1
  have han : a < n := by rw [← h0, ← List.length_set (i := i) (a := x')]; exact (List.getElem?_eq_some_iff.1 hy).1
  by_cases e : i = a
  · subst e
    rw [List.getElem?_set_self (by rw [h0]; exact hi)] at hy
    cases hy
    have hq := hp b u hu
    by_cases hr : s ≤ b ∧ b < s + vs.length
    · rw [if_pos hr] at hq
      have := h4 (b - s) u hq (by omega)
      rw [show i * k + s + (b - s) = i * k + b by omega] at this
      exact this
    · rw [if_neg hr] at hq
      rw [h3 (i * k + b) (by omega)]
      exact h i x hx b u hq
  · rw [List.getElem?_set_ne e] at hy
    rw [h3 (a * k + b) ?_]
    · exact h a y hy b u hu
    · rcases Nat.lt_or_gt_of_ne e with hh | hh
      · have := Nat.mul_le_mul_right k (show i + 1 ≤ a from hh)
        rw [Nat.add_mul, Nat.one_mul] at this
        omega
      · have := Nat.mul_le_mul_right k (show a + 1 ≤ i from hh)
        rw [Nat.add_mul, Nat.one_mul] at this
        omega
end
theorem ownBlock_at {ao : Option Addr} {n c g : Nat} (h : (Value.slice ao n c).ownBlock = some g) : ∃ x : Nat × Option Nat, ao = some ⟨g, x.1, x.2⟩ := by
  cases ao with
  | none => simp [Value.ownBlock] at h
  | some a => cases a; simp [Value.ownBlock] at h; subst h; exact ⟨(_, _), rfl⟩
/-- the same body, its corners elsewhere -/
def SameB (b b' : Bd) : Prop := b'.id = b.id ∧ b'.x = b.x ∧ b'.y = b.y ∧ b'.vx = b.vx ∧ b'.vy = b.vy ∧ b'.an = b.an ∧ b'.sp = b.sp ∧ b'.de = b.de ∧ b'.k = b.k ∧ b'.r = b.r ∧ b'.n = b.n ∧ b'.f = b.f
/-- a body's own corners, made since, apart from these blocks -/
def Mine (X : Nat → Prop) (lo : Nat) (w : World) (b : Bd) : Prop := Sl w b.ao b.n b.f ∧ ((b.ao = none ∧ b.n = 0 ∧ b.c = 0) ∨ ∃ g, b.ao = some ⟨g, 0, none⟩ ∧ lo ≤ g ∧ ¬ X g ∧ g < w.heap.size ∧ (0 < b.n → Row w g 26 b.n b.f))
theorem Mine.but {X Y : Nat → Prop} {lo : Nat} {w v : World} {b : Bd} (h : Mine X lo w b) (k : But Y w v) (hY : ∀ b, Y b → X b) : Mine X lo v b := by
  obtain ⟨h1, h2⟩ := h
  rcases h2 with ⟨a, b', c⟩ | ⟨g, e, h3, h4, h5, h6⟩
  · exact ⟨fun hn => absurd hn (by omega), .inl ⟨a, b', c⟩⟩
  · have hg : ¬ Y g := fun hy => h4 (hY g hy)
    refine ⟨h1.but k (fun b off s e' => by rw [e] at e'; cases e'; exact hg), .inr ⟨g, e, h3, h4, Nat.lt_of_lt_of_le h5 k.size, fun hn => ?_⟩⟩
    obtain ⟨A, h7, h8⟩ := h6 hn
    exact ⟨A, h7.but k hg, h8⟩
theorem Mine.more {X Y : Nat → Prop} {lo : Nat} {w : World} {b : Bd} (h : Mine X lo w b) (hY : ∀ g, Y g → X g ∨ w.heap.size ≤ g) : Mine Y lo w b := by
  obtain ⟨h1, h2⟩ := h
  rcases h2 with h2 | ⟨g, e, h3, h4, h5, h6⟩
  · exact ⟨h1, .inl h2⟩
  · exact ⟨h1, .inr ⟨g, e, h3, fun hy => (hY g hy).elim h4 (fun hh => absurd h5 (by omega)), h5, h6⟩⟩
theorem MadeMine {X : Nat → Prop} {lo : Nat} {w v : World} {b : Bd} (h : Mine X lo w b) (k : Made w.heap.size w v) : Mine X lo v b := h.but (Y := Nil0) (Made.but k) (fun _ h => h.elim)
end Go.Proofs.Ytggpchclfikneaa.Fx
