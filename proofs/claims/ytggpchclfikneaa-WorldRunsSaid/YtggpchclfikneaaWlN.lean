/- Made; the anchor. -/
import Derived.Test.YtggpchclfikneaaWlE
import Derived.Deep.MidRow
import Derived.Deep.LoopGhost
import Derived.LoopN
import Derived.WalkMore
namespace Go.Proofs.Ytggpchclfikneaa.Fx
open Go.ChangeShapes Go.WideShapes Go.ChangeAt Go.RowKit
set_option linter.unusedVariables false

theorem LsB.rangeAt {α : Type} {enc : α → List Value} {k : Nat} {w : World} {b off : Nat} {l : List α} (h : LsB enc k w b off l) {i : Nat} {x : α} (hx : l[i]? = some x) : w.rangeAt b (off + i * k) (enc x) := fun j v hv => h i x hx j v hv
theorem encD_one (x : De) : ∀ v ∈ encD x, v.oneCell' = true := by
  intro v hv; simp [encD] at hv; rcases hv with rfl | rfl | rfl | rfl | rfl | rfl | rfl | rfl | rfl | rfl | rfl | rfl | rfl | rfl | rfl | rfl | rfl | rfl | rfl | rfl | rfl | rfl | rfl | rfl | rfl | rfl | rfl | rfl | rfl | rfl <;> rfl
theorem there_of {w : World} {g n : Nat} {t : TypeId} {A : Array Value} (h : Has w g t A) (hs : n ≤ A.size) : w.there g 0 n := fun j hj => ⟨by rw [Nat.zero_add, h.at_]; simp; omega, h.free _⟩
theorem Made.setCells {B g : Nat} (hg : B ≤ g) : ∀ (vs : List Value) (o : Nat) {a w : World}, Made B a w → Made B a (w.setCells g o vs)
  | [], _, _, _, h => h
  | x :: vs, o, a, w, h => Made.setCells hg vs (o + 1) (h.put (p := ⟨g, o, none⟩) hg x)
/-- the deeds lie there -/
def DesAt (w : World) (ao : Option Addr) (l : List De) : Prop := LsT encD 30 w ao l ∧ ∀ d ∈ l, DeI d ∧ Sl w d.rao d.rn d.rf
theorem DesAt.kept {w v : World} {ao : Option Addr} {l : List De} (h : DesAt w ao l) (k : Made w.heap.size w v) : DesAt v ao l :=
  ⟨h.1.below k.1, fun d hd => ⟨(h.2 d hd).1, fun hn => by obtain ⟨b, off, e, hp⟩ := (h.2 d hd).2 hn; exact ⟨b, off, e, hp.kept k⟩⟩⟩
/-- few bodies and joints, low numbers, no contacts -/
def Small (P : PW) (m : Nat) : Prop := P.C = [] ∧ P.B.length ≤ m ∧ P.J.length ≤ m ∧ P.nb ≤ 1 + m ∧ P.nj ≤ 1 + m
theorem step_small {b : Bd} {j : Jt} {K id n e : Int} {gone : Bool} {P P' : PW} {m : Nat} (h : Small P m) (k : StepP b j K id P n e gone P') : Small P' (m + 1) := by
  obtain ⟨h1, h2, h3, h4, h5⟩ := h
  have same : Small P (m + 1) := ⟨h1, by omega, by omega, by omega, by omega⟩
  rcases k with ⟨_, _, k⟩ | ⟨_, _, _, k⟩ | ⟨_, _, _, k⟩ | ⟨_, _, k⟩
  · rcases k with ⟨_, _, _, rfl⟩ | ⟨_, _, _, _, rfl⟩ | ⟨_, _, _, _, _, rfl⟩ | ⟨_, _, _, _, _, _, rfl⟩
    · exact same
    · exact same
    · exact same
    · exact ⟨h1, by simp only []; omega, by simp only [List.length_append, List.length_singleton]; omega, by simp only []; omega, by simp only []; omega⟩
  · rcases k with ⟨_, _, rfl⟩ | ⟨_, _, rfl⟩
    · exact same
    · refine ⟨by simp [remB, h1], ?_, ?_, ?_, ?_⟩
      · exact Nat.le_trans (List.length_filter_le _ _) (by omega)
      · exact Nat.le_trans (List.length_filter_le _ _) (by omega)
      · show P.nb ≤ _; omega
      · show P.nj ≤ _; omega
  · rcases k with ⟨_, _, rfl⟩ | ⟨_, _, rfl⟩
    · exact same
    · refine ⟨h1, ?_, ?_, ?_, ?_⟩
      · show P.B.length ≤ _; omega
      · exact Nat.le_trans (List.length_filter_le _ _) (by omega)
      · show P.nb ≤ _; omega
      · show P.nj ≤ _; omega
  · rcases k with ⟨_, _, _, rfl⟩ | ⟨_, _, _, _, rfl⟩ | ⟨_, _, _, _, _, ao, c, rfl⟩
    · exact same
    · exact same
    · exact ⟨h1, by simp only [List.length_append, List.length_singleton]; omega, by simp only []; omega, by simp only []; omega, by simp only []; omega⟩
/-- a world's value and its lists -/
def WVal (X : Nat → Prop) (v : World) (val : Value) (P : PW) : Prop := ∃ ob oj oc cb cj cc, val = wdV 0 P.nb P.nj 0 0 (.slice ob P.B.length cb) (.slice oj P.J.length cj) (.slice oc P.C.length cc) ∧ WLs X v ob cb P.B oj cj P.J oc cc P.C
/-- no block that is not there yet holds anything of a world -/
theorem WLs.free {X Y : Nat → Prop} {w : World} {ob oj oc : Option Addr} {cb cj cc : Nat} {B : List Bd} {J : List Jt} {C : List Ct} (h : WLs X w ob cb B oj cj J oc cc C) (hY : ∀ b, Y b → X b ∨ w.heap.size ≤ b) : WLs Y w ob cb B oj cj J oc cc C := by
  have key : ∀ {α : Type} {enc : α → List Value} {k : Nat} {ao : Option Addr} {l : List α}, LsT enc k w ao l → (0 < l.length → Offs X ao) → 0 < l.length → Offs Y ao := fun hl hx h0 b off s e hb => by
    obtain ⟨b', off', e', hlt, _⟩ := hl h0
    rcases hY b hb with h1 | h1
    · exact hx h0 b off s e h1
    · rw [e] at e'
      cases e'
      omega
  refine ⟨h.at_, h.okB, h.okJ, h.okC, key h.at_.lB h.offB, key h.at_.lJ h.offJ, key h.at_.lC h.offC, fun b hb hn b' off s e hx => ?_, h.okP⟩
  obtain ⟨b'', off'', e', hp⟩ := (h.at_.sB b hb).1 hn
  have hlt := hp.here hn
  rw [e] at e'
  cases e'
  rcases hY b' hx with h1 | h1
  · exact h.offP b hb hn _ _ _ e h1
  · omega
theorem WVal.kept {X : Nat → Prop} {w v : World} {val : Value} {P : PW} (h : WVal X w val P) (k : Made w.heap.size w v) : WVal X v val P := by
  obtain ⟨ob, oj, oc, cb, cj, cc, e, hL⟩ := h
  exact ⟨ob, oj, oc, cb, cj, cc, e, hL.kept k⟩
/-- .. with no contacts' slice -/
def WVal0 (X : Nat → Prop) (v : World) (val : Value) (P : PW) : Prop := ∃ ob oj cb cj, val = wdV 0 P.nb P.nj 0 0 (.slice ob P.B.length cb) (.slice oj P.J.length cj) (.slice none P.C.length 0) ∧ WLs X v ob cb P.B oj cj P.J none 0 P.C
theorem WVal0.up {X : Nat → Prop} {v : World} {val : Value} {P : PW} (h : WVal0 X v val P) : WVal X v val P := by
  obtain ⟨ob, oj, cb, cj, e, hL⟩ := h
  exact ⟨ob, oj, none, cb, cj, 0, e, hL⟩
theorem WV0.open {X : Nat → Prop} {w : World} {gw : Nat} {P : PW} (h : WV0 X w gw P) : ∃ ob oj oc cb cj cc, (oc = none ∧ cc = 0) ∧ Has w gw 31 #[.int .i64 0, .int .i64 P.nb, .int .i64 P.nj, .int .i64 0, .int .i64 0, .slice ob P.B.length cb, .slice oj P.J.length cj, .slice oc P.C.length cc] ∧ WLs X w ob cb P.B oj cj P.J oc cc P.C := by
  obtain ⟨ob, oj, cb, cj, hH, hL⟩ := h
  exact ⟨ob, oj, none, cb, cj, 0, ⟨rfl, rfl⟩, hH, hL⟩
theorem ls_new (X : Nat → Prop) (w : World) : WLs X w none 0 [] none 0 [] none 0 [] :=
  ⟨⟨fun h => absurd h (by simp), fun h => absurd h (by simp), fun h => absurd h (by simp), fun b hb => by simp at hb, fun b hb => by simp at hb, fun b hb => by simp at hb⟩, ⟨Nat.le_refl _, by unfold maxLen; omega, .inl ⟨rfl, rfl, rfl⟩⟩, ⟨Nat.le_refl _, by unfold maxLen; omega, .inl ⟨rfl, rfl, rfl⟩⟩, ⟨Nat.le_refl _, by unfold maxLen; omega, .inl ⟨rfl, rfl, rfl⟩⟩,
    fun h => absurd h (by simp), fun h => absurd h (by simp), fun h => absurd h (by simp), fun b hb => by simp at hb, fun b hb => by simp at hb⟩
theorem Small.mono {P : PW} {k m : Nat} (h : Small P k) (hm : k ≤ m) : Small P m := ⟨h.1, by have := h.2.1; omega, by have := h.2.2.1; omega, by have := h.2.2.2.1; omega, by have := h.2.2.2.2; omega⟩
end Go.Proofs.Ytggpchclfikneaa.Fx
