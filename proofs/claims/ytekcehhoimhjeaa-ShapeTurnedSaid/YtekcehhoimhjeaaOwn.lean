/- Words on memory: a block whose cells are known; what a call that only makes memory leaves. -/
import Derived.Test.YtekcehhoimhjeaaRows
import Derived.WalkKit
import Derived.ProofKit
import Derived.OpenShut
import Derived.Outline
import Derived.Below
import Derived.Deep.Draws
namespace Go.Proofs.Ytekcehhoimhjeaa.Fx
open Go.ChangeShapes Go.WideShapes Go.ChangeAt Go.RowKit
set_option linter.unusedVariables false

theorem hid {p : Prop} (h : p) : Hid p := h
/-- block g is these cells -/
def Has (w : World) (g : Nat) (t : TypeId) (cs : Array Value) : Prop := w.heap[g]? = some (.cells cs t (0, 0))
theorem has_new (w : World) (t : TypeId) (cs : Array Value) : Has (w.alloc (.cells cs t)) w.heap.size t cs := by
  show (w.heap.push _)[w.heap.size]? = _
  simp
theorem Has.here {w : World} {g : Nat} {t : TypeId} {cs : Array Value} (h : Has w g t cs) : g < w.heap.size :=
  Nat.lt_of_not_le fun hge => by
    have e : w.heap[g]? = none := Array.getElem?_eq_none hge
    unfold Has at h
    exact absurd (e.symm.trans h) (by simp)
theorem Has.at_ {w : World} {g : Nat} {t : TypeId} {cs : Array Value} (h : Has w g t cs) (i : Nat) : w.cell? ⟨g, i, none⟩ = cs[i]? := cell_of_row w g i cs t (0, 0) h
theorem Has.free {w : World} {g : Nat} {t : TypeId} {cs : Array Value} (h : Has w g t cs) (i : Nat) : w.frozen? ⟨g, i, none⟩ = false := by
  unfold Has at h
  simp [World.frozen?, h]
theorem Has.more {w : World} {g : Nat} {t : TypeId} {cs : Array Value} (h : Has w g t cs) (o : Obj) : Has (w.alloc o) g t cs := (Below.heap_alloc w o g h.here).trans h
theorem Has.drawn {w : World} {g : Nat} {t : TypeId} {cs : Array Value} (h : Has w g t cs) (n : Nat) : Has (w.drewN n) g t cs := h
theorem Has.kept {w v : World} {g B : Nat} {t : TypeId} {cs : Array Value} (h : Has w g t cs) (hb : Below B w v) (hg : g < B) : Has v g t cs := (hb.block g hg).trans h
theorem Has.put {w : World} {g : Nat} {t : TypeId} {cs : Array Value} (h : Has w g t cs) (i : Nat) (u : Value) : Has (w.setCell ⟨g, i, none⟩ u) g t (cs.setIfInBounds i u) := by
  unfold Has at h ⊢
  simp [World.setCell, Array.getElem?_modify, h]
theorem Has.other {w : World} {g : Nat} {t : TypeId} {cs : Array Value} (h : Has w g t cs) (p : Addr) (hp : g ≠ p.block) (u : Value) : Has (w.setCell p u) g t cs := (Below.heap_setCell w p u g hp).trans h

/-- from w to v memory has only been made: below B nothing has turned, and no mark has -/
def Made (B : Nat) (w v : World) : Prop := Below B w v ∧ ∀ a, v.frozen? a = w.frozen? a
theorem Made.rfl_ (B : Nat) (w : World) : Made B w w := ⟨Below.refl B w, fun _ => rfl⟩
theorem Made.then_ {B : Nat} {a b c : World} (h : Made B a b) (k : Made B b c) : Made B a c := ⟨h.1.trans k.1, fun x => (k.2 x).trans (h.2 x)⟩
theorem Made.low {B B' : Nat} {w v : World} (h : Made B w v) (hB : B' ≤ B) : Made B' w v := ⟨h.1.mono hB, h.2⟩
theorem Made.draws {B : Nat} {a w : World} (h : Made B a w) (n : Nat) : Made B a (w.drewN n) := ⟨⟨h.1.os, h.1.tape, h.1.output, h.1.size, h.1.block⟩, h.2⟩
theorem Made.cells {B : Nat} {a w : World} (h : Made B a w) (hB : B ≤ w.heap.size) (c : Array Value) (t : TypeId) : Made B a (w.alloc (.cells c t)) :=
  ⟨h.1.alloc hB _, fun x => (frozen?_alloc_cells w c t x).trans (h.2 x)⟩
theorem Made.put {B : Nat} {a w : World} (h : Made B a w) {p : Addr} (hp : B ≤ p.block) (u : Value) : Made B a (w.setCell p u) :=
  ⟨h.1.setCell hp u, fun x => (World.frozen?_setCell _ _ _ _).trans (h.2 x)⟩
theorem Made.grown {w v : World} (h : Made w.heap.size w v) : Grown w v := ⟨h.1.frame _, h.2, h.1.size⟩
theorem Made.old {W v : World} (h : Made W.heap.size W v) : (∀ b o, b < W.heap.size → v.cell? ⟨b, o, none⟩ = W.cell? ⟨b, o, none⟩) ∧ (∀ a, v.frozen? a = W.frozen? a) :=
  ⟨fun b o k => h.1.cell (p := ⟨b, o, none⟩) k, h.2⟩
theorem Has.stays {w v : World} {g B : Nat} {t : TypeId} {cs : Array Value} (h : Has w g t cs) (hb : Made B w v) (hg : g < B) : Has v g t cs := h.kept hb.1 hg
theorem Made.reads {w v : World} (h : Made w.heap.size w v) {p : Addr} {x : Value} (k : w.cell? p = some x) : v.cell? p = some x :=
  (h.1.cell (World.block_lt_of_cell? w _ k)).trans k
theorem gthen {a b c : World} (h : Grown a b) (k : Grown b c) : Grown a c :=
  ⟨World.keptBut_trans h.1 (World.keptBut_mono (fun _ f => f.elim) k.1), fun x => (k.2.1 x).trans (h.2.1 x), Nat.le_trans h.2.2 k.2.2⟩
end Go.Proofs.Ytekcehhoimhjeaa.Fx
