/- Contacts that are added one by one. -/
import Derived.Test.YtggpchclfikneaaWlP
import Derived.Test.YtggpchclfikneaaWlC
namespace Go.Proofs.Ytggpchclfikneaa.Fx
open Go.ChangeShapes Go.WideShapes Go.ChangeAt Go.RowKit
set_option linter.unusedVariables false

/-- what a world asks of contacts whose bodies are there -/
def GoodC (ys : List Ct) : Prop := (∀ y ∈ ys, y.a < y.b ∧ 0 ≤ y.n) ∧ ys.Pairwise LtC
/-- what holds of each of them anyway -/
def PlainC (B : List Bd) (ys : List Ct) : Prop := ∀ y ∈ ys, CtI y ∧ 0 ≤ y.key ∧ y.a ∈ ids B ∧ y.b ∈ ids B
theorem PlainC.snoc {B : List Bd} {ys : List Ct} {y : Ct} (h : PlainC B ys) (k : CtI y ∧ 0 ≤ y.key ∧ y.a ∈ ids B ∧ y.b ∈ ids B) : PlainC B (ys ++ [y]) := fun x hx => by
  rcases List.mem_append.1 hx with hx | hx
  · exact h x hx
  · rw [List.mem_singleton.1 hx]; exact k
theorem good_snoc {ys : List Ct} {y z : Ct} (hz : ys ≠ [] → ys.getLast? = some z) : GoodC (ys ++ [y]) ↔ GoodC ys ∧ (y.a < y.b ∧ 0 ≤ y.n) ∧ (ys = [] ∨ LtC z y) := by
  unfold GoodC
  constructor
  · rintro ⟨h1, h2⟩
    rw [List.pairwise_append] at h2
    refine ⟨⟨fun x hx => h1 x (List.mem_append_left _ hx), h2.1⟩, h1 y (List.mem_append_right _ (List.mem_singleton.2 rfl)), ?_⟩
    by_cases e : ys = []
    · exact .inl e
    · exact .inr (h2.2.2 z (List.mem_of_getLast? (hz e)) y (List.mem_singleton.2 rfl))
  · rintro ⟨⟨h1, h2⟩, h3, h4⟩
    refine ⟨fun x hx => ?_, List.pairwise_append.2 ⟨h2, List.pairwise_singleton _ _, fun a ha b hb => ?_⟩⟩
    · rcases List.mem_append.1 hx with hx | hx
      · exact h1 x hx
      · rw [List.mem_singleton.1 hx]; exact h3
    · rw [List.mem_singleton.1 hb]
      rcases h4 with h4 | h4
      · rw [h4] at ha; simp at ha
      · obtain ⟨l', e⟩ := List.getLast?_eq_some_iff.1 (hz (fun e => by rw [e] at ha; simp at ha))
        rw [e] at ha h2
        rcases List.mem_append.1 ha with ha | ha
        · exact ((List.pairwise_append.1 h2).2.2 a ha z (List.mem_singleton.2 rfl)).trans h4
        · rw [List.mem_singleton.1 ha]; exact h4
theorem good_ok {B : List Bd} {ys : List Ct} (h : PlainC B ys) : ContactsP B ys ↔ GoodC ys :=
  ⟨fun k => ⟨fun y hy => ⟨(k.all y hy).1, (k.all y hy).2.2.1⟩, k.up⟩, fun k => ⟨fun y hy => ⟨(k.1 y hy).1, (h y hy).2.1, (k.1 y hy).2, (h y hy).2.2⟩, k.2⟩⟩
theorem good_world {P : PW} {ys : List Ct} {nb nj : Int} (hP : POk P) (hb : P.nb = nb) (hj : P.nj = nj) (h : PlainC P.B ys) : WorldP 0 nb nj 0 0 P.B P.J ys ↔ GoodC ys :=
  ⟨fun k => (good_ok h).1 k.hC, fun k => ⟨by omega, by unfold Inn; omega, by unfold Inn; omega, hb ▸ hP.hB, hj ▸ hP.hJ, (good_ok h).2 k⟩⟩
/-- in a rising list what has the same numbers is the same -/
theorem pair_same {l : List Ct} (h : l.Pairwise LtC) {x y : Ct} (hx : x ∈ l) (hy : y ∈ l) (e : x.a = y.a ∧ x.b = y.b ∧ x.key = y.key) : x = y := by
  obtain ⟨i, hi⟩ := List.mem_iff_getElem?.1 hx
  obtain ⟨j, hj⟩ := List.mem_iff_getElem?.1 hy
  rw [List.pairwise_iff_getElem] at h
  obtain ⟨hi1, hi2⟩ := List.getElem?_eq_some_iff.1 hi
  obtain ⟨hj1, hj2⟩ := List.getElem?_eq_some_iff.1 hj
  rcases Nat.lt_trichotomy i j with hh | hh | hh
  · have := h i j hi1 hj1 hh
    rw [hi2, hj2] at this
    unfold LtC at this; omega
  · subst hh; rw [hi] at hj; cases hj; rfl
  · have := h j i hj1 hi1 hh
    rw [hi2, hj2] at this
    unfold LtC at this; omega
theorem own_from {w : World} {base n size g : Nat} {t : TypeId} {x : Value} {xs : List Value} (h : w.ownsRow base t size x n xs) (e : some g = x.ownBlock) : base ≤ g := by
  rcases h.2 with ⟨hv, _⟩ | ⟨g', cap, cur, hv, hb, _⟩
  · rw [hv] at e; cases e
  · rw [hv] at e; cases e; exact hb
theorem own_SlOk {w : World} {base n c size : Nat} {t : TypeId} {ao : Option Addr} {xs : List Value} (h : w.ownsRow base t size (.slice ao n c) n xs) : SlOk ao n c := by
  rcases h.2 with ⟨hv, e⟩ | ⟨g', cap, cur, hv, hb, hh, hc, hm, _⟩
  · injection hv with h1 h2 h3
    rw [h1, h2, h3]
    exact ⟨Nat.le_refl _, by unfold maxLen; omega, .inl ⟨rfl, rfl, rfl⟩⟩
  · injection hv with h1 h2 h3
    rw [h1, h3]
    exact ⟨hc, hm, .inr ⟨_, _, rfl⟩⟩
theorem own_LsT {α : Type} {enc : α → List Value} {k : Nat} (hk : ∀ x, (enc x).length = k) {w : World} {base n c : Nat} {t : TypeId} {ao : Option Addr} {l : List α} (h : w.ownsRow base t k (.slice ao n c) n (flatE enc l)) (hn : l.length = n) : LsT enc k w ao l := by
  subst hn
  obtain ⟨ao', c', ev, _, h, _⟩ := LsT.of_own hk h
  have e1 : ao = ao' := by injection ev
  rw [e1]; exact h
theorem Has.put5 {w : World} {g : Nat} {t : TypeId} {c0 c1 c2 c3 c4 : Value} (h : Has w g t #[c0, c1, c2, c3, c4]) (v0 v1 v2 v3 v4 : Value) :
    Has (((((w.setCell ⟨g, 0, none⟩ v0).setCell ⟨g, 1, none⟩ v1).setCell ⟨g, 2, none⟩ v2).setCell ⟨g, 3, none⟩ v3).setCell ⟨g, 4, none⟩ v4) g t #[v0, v1, v2, v3, v4] := by
  have h1 : Has (w.setCell ⟨g, 0, none⟩ v0) g t #[v0, c1, c2, c3, c4] := h.put 0 v0
  have h2 : Has ((w.setCell ⟨g, 0, none⟩ v0).setCell ⟨g, 1, none⟩ v1) g t #[v0, v1, c2, c3, c4] := h1.put 1 v1
  have h3 : Has (((w.setCell ⟨g, 0, none⟩ v0).setCell ⟨g, 1, none⟩ v1).setCell ⟨g, 2, none⟩ v2) g t #[v0, v1, v2, c3, c4] := h2.put 2 v2
  have h4 : Has ((((w.setCell ⟨g, 0, none⟩ v0).setCell ⟨g, 1, none⟩ v1).setCell ⟨g, 2, none⟩ v2).setCell ⟨g, 3, none⟩ v3) g t #[v0, v1, v2, v3, c4] := h3.put 3 v3
  exact h4.put 4 v4
theorem But.put5 {X : Nat → Prop} {a w : World} {g : Nat} (h : But X a w) (hg : X g ∨ a.heap.size ≤ g) (v0 v1 v2 v3 v4 : Value) :
    But X a (((((w.setCell ⟨g, 0, none⟩ v0).setCell ⟨g, 1, none⟩ v1).setCell ⟨g, 2, none⟩ v2).setCell ⟨g, 3, none⟩ v3).setCell ⟨g, 4, none⟩ v4) :=
  ((((h.put (p := ⟨g, 0, none⟩) hg v0).put (p := ⟨g, 1, none⟩) hg v1).put (p := ⟨g, 2, none⟩) hg v2).put (p := ⟨g, 3, none⟩) hg v3).put (p := ⟨g, 4, none⟩) hg v4
theorem cneq (a b c d e : Int) (w : World) : (binOp .neq 84 (.agg #[.int .i64 a, .int .i64 b, .int .i64 c, .int .i64 d, .int .i64 e]) (.agg #[.int .i64 a, .int .i64 b, .int .i64 c, .int .i64 d, .int .i64 e])).run Try.prog w = .ok (.bool false) w := by go_simp
theorem and255 (x : Int) : bits .and .i64 x 255 = x % 256 := and_low x 8 (by omega)
theorem tmod_nat {x : Int} {n : Nat} (hx : 0 ≤ x) (hn : 0 < n) : ∃ j : Nat, x.tmod n = (j : Int) ∧ j < n := by
  refine ⟨(x % n).toNat, ?_, ?_⟩
  · rw [Int.tmod_eq_emod_of_nonneg hx]; have := Int.emod_nonneg x (show (n : Int) ≠ 0 by omega); omega
  · have := Int.emod_nonneg x (show (n : Int) ≠ 0 by omega)
    have := Int.emod_lt_of_pos x (show (0 : Int) < n by omega); omega
theorem take_filter {α : Type} (p : α → Bool) (l : List α) (j : Nat) {x : α} (h : l[j]? = some x) : ((l.take (j + 1)).filter p).length = ((l.take j).filter p).length + if p x then 1 else 0 := by
  have e : l.take (j + 1) = l.take j ++ [x] := by
    obtain ⟨h1, h2⟩ := List.getElem?_eq_some_iff.1 h
    rw [List.take_succ_eq_append_getElem h1, h2]
  rw [e, List.filter_append, List.length_append]
  congr 1
  by_cases hp : p x <;> simp [hp]
end Go.Proofs.Ytggpchclfikneaa.Fx
