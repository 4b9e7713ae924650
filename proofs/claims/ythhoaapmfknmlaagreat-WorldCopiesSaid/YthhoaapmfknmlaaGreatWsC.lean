/- Copies of a world, each in a stretch of blocks of its own. -/
import Derived.Test.YthhoaapmfknmlaaGreatWsB
import Derived.Test.YthhoaapmfknmlaaGreatWlR
import Derived.Test.YthhoaapmfknmlaaGreatMkj
namespace Go.Proofs.YthhoaapmfknmlaaGreat.Fx
open Go.ChangeShapes Go.WideShapes Go.ChangeAt Go.RowKit
set_option linter.unusedVariables false

def SameBs (B B' : List Bd) : Prop := B'.length = B.length ∧ ∀ (i : Nat) b b', B[i]? = some b → B'[i]? = some b' → SameB b b'
/-- a copy of a plain world without contacts, in the blocks from lo up to e.hi -/
def CopyV (P : PW) (v : World) (lo : Nat) (e : MI.Ex) : Prop :=
  ∃ ob oj cb cj, e.v = wdV 0 P.nb P.nj 0 0 (.slice ob P.B.length cb) (.slice oj P.J.length cj) (.slice none 0 0) ∧ SameBs P.B e.bs ∧ WLs (fun b => b < lo ∨ e.hi ≤ b) v ob cb e.bs oj cj P.J none 0 [] ∧
    (0 < P.B.length → ∃ g, ob = some ⟨g, 0, none⟩ ∧ RowL encB 11 v g 34 P.B.length e.bs) ∧ (0 < P.B.length → 0 < P.J.length → ∀ g o s o' s', ob = some ⟨g, o, s⟩ → oj = some ⟨g, o', s'⟩ → False) ∧ (0 < P.J.length → ∃ g, oj = some ⟨g, 0, none⟩) ∧ ∀ b ∈ e.bs, Mine (fun g => ob = some ⟨g, 0, none⟩ ∨ oj = some ⟨g, 0, none⟩) lo v b
theorem CopyV.kept {P : PW} {u v : World} {lo : Nat} {e : MI.Ex} (h : CopyV P u lo e) (hh : e.hi ≤ u.heap.size) (k : Made u.heap.size u v) : CopyV P v lo e := by
  obtain ⟨ob, oj, cb, cj, h1, h2, h3, h4, h6, h7, h5⟩ := h
  refine ⟨ob, oj, cb, cj, h1, h2, h3.kept k, fun hn => ?_, h6, h7, fun b hb => MadeMine (h5 b hb) k⟩
  obtain ⟨g, e, hr⟩ := h4 hn
  exact ⟨g, e, hr.stays k hr.here⟩
theorem same_in {B B' : List Bd} (h : SameBs B B') {b' : Bd} (hb : b' ∈ B') : ∃ b ∈ B, SameB b b' := by
  obtain ⟨i, hi⟩ := List.mem_iff_getElem?.1 hb
  obtain ⟨b, hb, hs⟩ := same_at rfl h.1 h.2 hi
  exact ⟨b, List.mem_of_getElem? hb, hs⟩
theorem SameB.ok {b b' : Bd} (h : SameB b b') (k : BodyP b) : BodyP b' := by
  obtain ⟨h0, h1, h2, h3, h4, h5, h6, h7, h8, h9, h10, h11⟩ := h
  refine ⟨?_, ?_, ?_, ?_, ?_, ?_, ?_, ?_, ?_⟩
  · rw [h8, h9, h10, h11]; exact k.shape
  · rw [h1]; exact k.x
  · rw [h2]; exact k.y
  · rw [h3]; exact k.vx
  · rw [h4]; exact k.vy
  · rw [h6]; exact k.sp
  · rw [h5]; exact k.an
  · rw [h7]; exact k.de
  · rw [h7, h3, h4, h6]; exact k.still
theorem SameB.eqb {b b' : Bd} (h : SameB b b') : EqB b b' := by
  obtain ⟨h0, h1, h2, h3, h4, h5, h6, h7, h8, h9, h10, h11⟩ := h
  exact ⟨h0.symm, ⟨h1.symm, h2.symm⟩, ⟨h3.symm, h4.symm⟩, h5.symm, h6.symm, h7.symm, h8.symm, h9.symm, h10.symm, fun i _ => by rw [h11]⟩
theorem EqB.symm {b b' : Bd} (h : EqB b b') : EqB b' b := by
  obtain ⟨h0, h1, h2, h3, h4, h5, h6, h7, h8, h9⟩ := h
  exact ⟨h0.symm, ⟨h1.1.symm, h1.2.symm⟩, ⟨h2.1.symm, h2.2.symm⟩, h3.symm, h4.symm, h5.symm, h6.symm, h7.symm, h8.symm, fun i hi => (h9 i (h8 ▸ hi)).symm⟩
theorem EqB.trans {a b c : Bd} (h : EqB a b) (k : EqB b c) : EqB a c := by
  obtain ⟨h0, h1, h2, h3, h4, h5, h6, h7, h8, h9⟩ := h
  obtain ⟨k0, k1, k2, k3, k4, k5, k6, k7, k8, k9⟩ := k
  exact ⟨h0.trans k0, ⟨h1.1.trans k1.1, h1.2.trans k1.2⟩, ⟨h2.1.trans k2.1, h2.2.trans k2.2⟩, h3.trans k3, h4.trans k4, h5.trans k5, h6.trans k6, h7.trans k7, h8.trans k8, fun i hi => (h9 i hi).trans (k9 i (h8 ▸ hi))⟩
theorem SameBs.eq {B B' : List Bd} (h : SameBs B B') : EqBs B B' := ⟨h.1.symm, fun i x y hx hy => (h.2 i x y hx hy).eqb⟩
theorem EqBs.symm {B B' : List Bd} (h : EqBs B B') : EqBs B' B := ⟨h.1.symm, fun i x y hx hy => (h.2 i y x hy hx).symm⟩
theorem EqBs.trans {A B C : List Bd} (h : EqBs A B) (k : EqBs B C) : EqBs A C := ⟨h.1.trans k.1, fun i x z hx hz => by
  have hi := (List.getElem?_eq_some_iff.1 hx).1
  have hy : B[i]? = some (B[i]'(by rw [← h.1]; exact hi)) := List.getElem?_eq_getElem _
  exact (h.2 i _ _ hx hy).trans (k.2 i _ _ hy hz)⟩
theorem copy_ok {P : PW} {B' : List Bd} (h : POk P) (hC : P.C = []) (hs : SameBs P.B B') : POk ⟨P.nb, P.nj, B', P.J, []⟩ := by
  have e : ids B' = ids P.B := same_ids rfl hs.1 hs.2
  refine ⟨⟨by show B'.length ≤ _; rw [hs.1]; exact h.hB.len, fun b hb => ?_, ?_⟩, ⟨h.hJ.len, fun j hj => ?_, h.hJ.num⟩, ⟨fun c hc => by simp at hc, List.Pairwise.nil⟩⟩
  · obtain ⟨b0, hb0, hs0⟩ := same_in hs hb
    exact hs0.ok (h.hB.all b0 hb0)
  · show NumP (ids B') P.nb
    rw [e]
    exact h.hB.num
  · have := h.hJ.all j hj
    refine ⟨this.1, ?_, ?_⟩
    · show j.a ∈ ids B'; rw [e]; exact this.2.1
    · show j.b ∈ ids B'; rw [e]; exact this.2.2
/-- world.Copy, as a making -/
theorem copy_mk {P : PW} {X : Nat → Prop} {w : World} (ob oj : Option Addr) (cb cj nB nJ : Nat) (nb nj : Int) (hP : POk P) (hE : P.B.length = nB ∧ P.J.length = nJ ∧ P.nb = nb ∧ P.nj = nj) (hL : WLs X w ob cb P.B oj cj P.J none 0 []) :
    Calls Tryz.prog 11 #[wdV 0 nb nj 0 0 (.slice ob nB cb) (.slice oj nJ cj) (.slice none 0 0)] w fun e v => ∃ g ex, e = .returned ex.v ∧ w.heap.size ≤ g ∧ g ≤ ex.hi ∧ ex.hi ≤ v.heap.size ∧ CopyV P v g ex ∧ Made w.heap.size w v := by
  obtain ⟨e1, e2, e3, e4⟩ := hE
  refine (wcopy_x 0 nb nj 0 0 ob oj none nB cb nJ cj 0 0 hL e1 e2 rfl (by have := hP.hB.len; omega) (by have := hP.hJ.len; omega) (by omega) (n8_of hP)).mono ?_
  rintro e v ⟨B', ob', oj', oc', cb', cj', cc', rfl, k, hl, hs, hB, hJ, hC, hO, hN, hM⟩
  obtain ⟨rfl, rfl⟩ := hN rfl
  have hsm : SameBs P.B B' := ⟨by rw [hl, e1], hs⟩
  have off : ∀ {α : Type} {enc : α → List Value} {kk n c : Nat} {t : TypeId} {ao : Option Addr} {l : List α}, NewL enc kk t w v ao n c l → 0 < l.length → Offs (fun b => b < w.heap.size ∨ v.heap.size ≤ b) ao := fun h hn b off s e hx => by
    have h1 := h.fresh b off s e
    obtain ⟨b2, o2, e2, hl2, _⟩ := h.ls hn
    rw [e] at e2
    cases e2
    omega
  have okS : ∀ {α : Type} {enc : α → List Value} {kk n c : Nat} {t : TypeId} {ao : Option Addr} {l : List α}, NewL enc kk t w v ao n c l → SlOk ao l.length c := fun h => by rw [h.len]; exact ⟨h.nc, h.cm, h.ok⟩
  refine ⟨w.heap.size, ⟨v.heap.size, _, B'⟩, rfl, Nat.le_refl _, k.1.size, Nat.le_refl _, ⟨ob', oj', cb', cj', by rw [e1, e2, e3, e4], hsm, ?_, ?_, ?_, ?_, ?_⟩, k⟩
  · refine ⟨⟨hB.ls, hJ.ls, fun h => absurd h (by simp), fun b hb => ?_, hL.at_.iJ, fun c hc => by simp at hc⟩, okS hB, okS hJ, ⟨Nat.le_refl _, by unfold maxLen; omega, .inl ⟨rfl, rfl, rfl⟩⟩, off hB, off hJ, fun h => absurd h (by simp), fun b hb hn b' off s e hx => ?_, fun b hb => ?_⟩
    · obtain ⟨b0, hb0, hs0⟩ := same_in hsm hb
      exact ⟨(hM b hb).1, hs0.i (hL.at_.sB b0 hb0).2⟩
    · have hx : b' < w.heap.size ∨ v.heap.size ≤ b' := hx
      rcases (hM b hb).2 with ⟨h, _⟩ | ⟨g, h, h3, h4, h5, _⟩
      · rw [h] at e; cases e
      · rw [h] at e; cases e; omega
    · rcases (hM b hb).2 with ⟨h1, h2, h3⟩ | ⟨g, h, _⟩
      · exact .inl ⟨h1, h2, h3⟩
      · exact .inr ⟨_, h⟩
  · intro hn
    obtain ⟨g, e, hr⟩ := hB.row (by rw [← e1]; exact hn)
    exact ⟨g, e, by rw [e1]; exact hr⟩
  · intro h1 h2 g o s o' s' e e'
    obtain ⟨g1, e1', hr1⟩ := hB.row (by rw [← e1]; exact h1)
    obtain ⟨g2, e2', hr2⟩ := hJ.row (by rw [← e2]; exact h2)
    rw [e1'] at e
    rw [e2'] at e'
    cases e
    cases e'
    obtain ⟨_, A, hA, _⟩ := hr1
    obtain ⟨_, A2, hA2, _⟩ := hr2
    have := hA.symm.trans hA2
    simp at this
  · intro h2
    obtain ⟨g2, e2', hr2⟩ := hJ.row (by rw [← e2]; exact h2)
    exact ⟨g2, e2'⟩
  · intro b hb
    exact (hM b hb).more (fun g hg => .inl (hg.elim .inl (fun hg => .inr (.inl hg))))
/-- what lies outside a copy's stretch -/
abbrev Out (lo hi : Nat) : Nat → Prop := fun b => b < lo ∨ hi ≤ b
theorem CopyV.var {P : PW} {v : World} {lo g : Nat} {e : MI.Ex} (h : CopyV P v lo e) (hH : ∀ cs, e.v = .agg cs → Has v g 42 cs) : WV0 (Out lo e.hi) v g ⟨P.nb, P.nj, e.bs, P.J, []⟩ := by
  obtain ⟨ob, oj, cb, cj, h1, h2, h3, h4, h6, h7, h5⟩ := h
  refine ⟨ob, oj, cb, cj, ?_, h3⟩
  have := hH _ h1
  rw [← h2.1] at this
  exact this
/-- the first number of a row of corners is written -/
theorem Row.put0 {w : World} {g n : Nat} {t : TypeId} {f : Cs} (h : Row w g t n f) (p : Int) : Pts (w.setCell ⟨g, 0, none⟩ (.int .i64 p)) g 0 n (fun i => if i = 0 then (p, (f 0).2) else f i) := by
  have hp := h.pts
  obtain ⟨A, hA, _, _⟩ := h
  have hA' := hA.put 0 (.int .i64 p)
  intro i hi
  obtain ⟨h1, h2⟩ := hp i hi
  rw [hA.at_] at h1 h2
  rw [hA'.at_, hA'.at_]
  by_cases e : i = 0
  · subst e
    refine ⟨?_, ?_⟩
    · have hsz : 0 < A.size := by
        have := (Array.getElem?_eq_some_iff.1 h1).1
        simpa using this
      simp [hsz]
    · rw [Array.getElem?_setIfInBounds_ne (by omega)]
      simpa using h2
  · rw [Array.getElem?_setIfInBounds_ne (by omega), Array.getElem?_setIfInBounds_ne (by omega)]
    simp only [if_neg e]
    exact ⟨h1, h2⟩
/-- the bodies whose corners lie there have turned -/
def turnB (ao : Option Addr) (p : Int) (b : Bd) : Bd := ⟨b.id, b.x, b.y, b.vx, b.vy, b.an, b.sp, b.de, b.k, b.r, b.ao, b.n, b.c, open Classical in if b.ao = ao ∧ 0 < b.n then fun i => if i = 0 then (p, (b.f 0).2) else b.f i else b.f⟩
theorem LsT.map {α : Type} {enc : α → List Value} {k : Nat} {w : World} {ao : Option Addr} {l : List α} (h : LsT enc k w ao l) (g : α → α) (hg : ∀ x, enc (g x) = enc x) : LsT enc k w ao (l.map g) := fun hn => by
  obtain ⟨b, off, e, hb, hl⟩ := h (by simpa using hn)
  refine ⟨b, off, e, hb, fun i x hx j u hu => ?_⟩
  rw [List.getElem?_map] at hx
  cases hy : l[i]? with
  | none => rw [hy] at hx; cases hx
  | some y =>
    rw [hy] at hx
    simp at hx
    rw [← hx, hg] at hu
    exact hl i y hy j u hu
end Go.Proofs.YthhoaapmfknmlaaGreat.Fx
