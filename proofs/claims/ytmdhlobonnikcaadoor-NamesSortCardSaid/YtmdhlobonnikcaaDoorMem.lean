/- Words on memory and regions. -/
import Derived.Test.YtmdhlobonnikcaaDoorRows
import Derived.WalkKit
import Derived.ProofKit
import Derived.OpenShut
import Derived.Outline
import Derived.Below
import Derived.Deep.Draws
import Derived.StillTail
import Derived.Deep.QuietTactic
import Derived.BigQuiet
import Derived.Deep.RegionHeld3
import Derived.Laws.AppendOwn
import Derived.Sort.BigQuietIn
import Derived.OwnWalkIn
import Derived.RangeFuncCalls

/- Words on memory: a block whose cells are known; what a call that only makes memory leaves. -/
namespace Go.Proofs.YtmdhlobonnikcaaDoor.Fx
open Go.ChangeShapes Go.WideShapes Go.ChangeAt Go.RowKit
set_option linter.unusedVariables false

theorem hid {p : Prop} (h : p) : Hid p := h
/-- block g is these cells -/
def Has (w : World) (g : Nat) (t : TypeId) (cs : Array Value) : Prop := w.heap[g]? = some (.cells cs t (0, 0))
theorem has_new (w : World) (t : TypeId) (cs : Array Value) : Has (w.alloc (.cells cs t)) w.heap.size t cs := by
  show (w.heap.push _)[w.heap.size]? = _
  simp
theorem Has.here {w : World} {g : Nat} {t : TypeId} {cs : Array Value} (h : Has w g t cs) : g < w.heap.size :=
  Nat.lt_of_not_le fun hge => by
    have e : w.heap[g]? = none := Array.getElem?_eq_none hge
    unfold Has at h
    exact absurd (e.symm.trans h) (by simp)
theorem Has.at_ {w : World} {g : Nat} {t : TypeId} {cs : Array Value} (h : Has w g t cs) (i : Nat) : w.cell? ⟨g, i, none⟩ = cs[i]? := cell_of_row w g i cs t (0, 0) h
theorem Has.free {w : World} {g : Nat} {t : TypeId} {cs : Array Value} (h : Has w g t cs) (i : Nat) : w.frozen? ⟨g, i, none⟩ = false := by
  unfold Has at h
  simp [World.frozen?, h]
theorem Has.more {w : World} {g : Nat} {t : TypeId} {cs : Array Value} (h : Has w g t cs) (o : Obj) : Has (w.alloc o) g t cs := (Below.heap_alloc w o g h.here).trans h
theorem Has.drawn {w : World} {g : Nat} {t : TypeId} {cs : Array Value} (h : Has w g t cs) (n : Nat) : Has (w.drewN n) g t cs := h
theorem Has.kept {w v : World} {g B : Nat} {t : TypeId} {cs : Array Value} (h : Has w g t cs) (hb : Below B w v) (hg : g < B) : Has v g t cs := (hb.block g hg).trans h
theorem Has.put {w : World} {g : Nat} {t : TypeId} {cs : Array Value} (h : Has w g t cs) (i : Nat) (u : Value) : Has (w.setCell ⟨g, i, none⟩ u) g t (cs.setIfInBounds i u) := by
  unfold Has at h ⊢
  simp [World.setCell, Array.getElem?_modify, h]
theorem Has.other {w : World} {g : Nat} {t : TypeId} {cs : Array Value} (h : Has w g t cs) (p : Addr) (hp : g ≠ p.block) (u : Value) : Has (w.setCell p u) g t cs := (Below.heap_setCell w p u g hp).trans h

/-- from w to v memory has only been made: below B nothing has turned, and no mark has -/
def Made (B : Nat) (w v : World) : Prop := Below B w v ∧ ∀ a, v.frozen? a = w.frozen? a
theorem Made.rfl_ (B : Nat) (w : World) : Made B w w := ⟨Below.refl B w, fun _ => rfl⟩
theorem Made.then_ {B : Nat} {a b c : World} (h : Made B a b) (k : Made B b c) : Made B a c := ⟨h.1.trans k.1, fun x => (k.2 x).trans (h.2 x)⟩
theorem Made.low {B B' : Nat} {w v : World} (h : Made B w v) (hB : B' ≤ B) : Made B' w v := ⟨h.1.mono hB, h.2⟩
theorem Made.draws {B : Nat} {a w : World} (h : Made B a w) (n : Nat) : Made B a (w.drewN n) := ⟨⟨h.1.os, h.1.tape, h.1.output, h.1.size, h.1.block⟩, h.2⟩
theorem Made.cells {B : Nat} {a w : World} (h : Made B a w) (hB : B ≤ w.heap.size) (c : Array Value) (t : TypeId) : Made B a (w.alloc (.cells c t)) :=
  ⟨h.1.alloc hB _, fun x => (frozen?_alloc_cells w c t x).trans (h.2 x)⟩
theorem Made.put {B : Nat} {a w : World} (h : Made B a w) {p : Addr} (hp : B ≤ p.block) (u : Value) : Made B a (w.setCell p u) :=
  ⟨h.1.setCell hp u, fun x => (World.frozen?_setCell _ _ _ _).trans (h.2 x)⟩
theorem Made.grown {w v : World} (h : Made w.heap.size w v) : Grown w v := ⟨h.1.frame _, h.2, h.1.size⟩
theorem Made.old {W v : World} (h : Made W.heap.size W v) : (∀ b o, b < W.heap.size → v.cell? ⟨b, o, none⟩ = W.cell? ⟨b, o, none⟩) ∧ (∀ a, v.frozen? a = W.frozen? a) :=
  ⟨fun b o k => h.1.cell (p := ⟨b, o, none⟩) k, h.2⟩
theorem Has.stays {w v : World} {g B : Nat} {t : TypeId} {cs : Array Value} (h : Has w g t cs) (hb : Made B w v) (hg : g < B) : Has v g t cs := h.kept hb.1 hg
theorem Made.reads {w v : World} (h : Made w.heap.size w v) {p : Addr} {x : Value} (k : w.cell? p = some x) : v.cell? p = some x :=
  (h.1.cell (World.block_lt_of_cell? w _ k)).trans k
theorem gthen {a b c : World} (h : Grown a b) (k : Grown b c) : Grown a c :=
  ⟨World.keptBut_trans h.1 (World.keptBut_mono (fun _ f => f.elim) k.1), fun x => (k.2.1 x).trans (h.2.1 x), Nat.le_trans h.2.2 k.2.2⟩
end Go.Proofs.YtmdhlobonnikcaaDoor.Fx

/- Regions that draw their order: one walk in the text's order, over a class of worlds; with a tail that comes up in one order alone. -/
namespace Go.Proofs.YtmdhlobonnikcaaDoor.Fx
open Go.ChangeShapes Go.WideShapes Go.ChangeAt Go.RowKit
set_option linter.unusedVariables false

section
variable {P : Program} {ops : Array Oper} {md : Region.Mode} {C : World → Prop}

/-- the head: whatever comes up is one of the first n and is quiet in the class; when so many have come up, L -/
def headC (P : Program) (md : Region.Mode) (ops : Array Oper) (C : World → Prop) (n : Nat) (L : Array Bool → Act → Prop) : Nat → Array Bool → Act → Prop
  | 0, got, a => L got a
  | f + 1, got, a => Region.ready md ops got ≠ [] ∧ ∀ i ∈ Region.ready md ops got, i < n ∧ qOp P ops C i (headC P md ops C n L f (got.setIfInBounds i true)) a

theorem headC_any {n g : Nat} {L : Array Bool → Act → Prop} {Q : Exit → Act → World → Prop}
    (hL : ∀ got a w, C w → L got a → wpAny P md ops Q g got a w) :
    ∀ (f : Nat) (got : Array Bool) (a : Act) (w : World), C w → headC P md ops C n L f got a → wpAny P md ops Q (f + g) got a w
  | 0, got, a, w, hw, h => by rw [Nat.zero_add]; exact hL _ _ _ hw h
  | f + 1, got, a, w, hw, h => by
    rw [show f + 1 + g = (f + g) + 1 by omega]
    exact ⟨fun h0 => absurd h0 h.1, fun i hi => wpOp_of_qOp hw (fun a' w' hw' h' => headC_any hL f _ a' w' hw' h') (h.2 i hi).2⟩

theorem headC_first {n i : Nat} {oi : Oper} {v : Value} {L : Array Bool → Act → Prop} (hi : ops[i]? = some oi) (hsel : ∀ (j : Nat) (o : Oper) cs b, ops[j]? = some o → o.op ≠ .select cs b)
    (hs : Region.sinkB md ops n = true) (hc : Region.chainB md ops n = true) (hn : n < ops.size) (hin : i < n)
    (hdone : ∀ got a, L got a → ∀ j ∈ Region.ready md ops got, n ≤ j) :
    ∀ (f : Nat) (got : Array Bool) (a : Act), HeadInv md ops n got →
      (∀ j oj, ops[j]? = some oj → j ≠ i → got.getD j true = false → (∀ e ∈ oj.after, Region.binds md e = true → e.on ≠ i) → oi.apart ops oj = true) →
      i ∈ Region.ready md ops got → YieldsIn P ops C oi v a →
      headC P md ops C n L f (got.setIfInBounds i true) (a.put oi.dst v) → headC P md ops C n L (f + 1) got a
  | f, got, a, inv, hfree, hr, hy, H => by
    have hun := (mem_ready.1 hr).1
    refine ⟨fun h => (by rw [h] at hr; cases hr), fun j hj => ?_⟩
    have hjn : j < n := by
      rcases Nat.lt_or_ge j n with h | h
      · exact h
      · exact absurd hj (tail_waits hs hc hn inv _ i rfl hin hun j h)
    refine ⟨hjn, ?_⟩
    by_cases hji : j = i
    · subst hji; exact hy.qOp hi H
    · have hrj := ready_mono hj hji
      match f, H with
      | 0, H => have := hdone _ _ H j hrj; omega
      | f + 1, H =>
        obtain ⟨hjun, oj, hoj, hall⟩ := mem_ready.1 hj
        have hnot : ∀ e ∈ oj.after, Region.binds md e = true → e.on ≠ i := fun e he hb heq => by
          have h1 := hall e he hb
          rw [heq, getD_both hun] at h1
          cases h1
        have h2 := qOp_put hoj (hfree j oj hoj hji hjun hnot) (fun cs b => hsel i oi cs b hi) (fun cs b => hsel j oj cs b hoj) hy (H.2 j hrj).2
        refine qOp_mono (fun a' h3 => headC_first hi hsel hs hc hn hin hdone f (got.setIfInBounds j true) a' (inv.set hj hjn) (fun k ok hk hki hun' hno => ?_) (ready_mono hr (Ne.symm hji)) h3.1 ?_) h2
        · refine hfree k ok hk hki ?_ hno
          by_cases hjk : j = k
          · subst hjk; exact hjun
          · rw [getD_set_ne true hjk] at hun'; exact hun'
        · rw [Array.setIfInBounds_comm _ _ hji]
          exact h3.2

theorem headC_lex {n g : Nat} {Lq : Act → Prop} (hsel : Region.noSelect ops = true) (hs : Region.sinkB md ops n = true) (hc : Region.chainB md ops n = true) (hn : n < ops.size) :
    ∀ (l : List Oper) (k : Nat) (got : Array Bool) (a : Act), (∀ j, j < l.length → l[j]? = ops[k + j]?) → k + l.length = n → HeadInv md ops n got →
    Region.lexHead md ops g l.length k got = true → wpQuiet P ops C Lq l a →
    headC P md ops C n (fun got' a' => Region.seqB md ops g n got' = true ∧ Lq a') l.length got a
  | [], k, got, a, _, hk, _, hB, h => by
    obtain rfl : k = n := by simpa using hk
    exact ⟨by simpa [Region.lexHead] using hB, h⟩
  | o :: l, k, got, a, hl, hk, inv, hB, h => by
    have h0 : ops[k]? = some o := by simpa using (hl 0 (by simp)).symm
    simp only [List.length_cons, Region.lexHead, Bool.and_eq_true] at hB
    obtain ⟨⟨hr, hf⟩, hB'⟩ := hB
    have hkn : k < n := by simp only [List.length_cons] at hk; omega
    have hr' : k ∈ Region.ready md ops got := by simpa using hr
    have hst : qOp P ops C k (wpQuiet P ops C Lq l) a := by unfold qOp; simp only [h0]; exact h
    obtain ⟨v, hy, hK⟩ := yieldsIn_of_qOp h0 hst
    exact headC_first h0 (Region.noSelect_spec hsel) hs hc hn hkn (fun got' a' hL => seqB_ready hL.1) l.length got a inv (Region.free_spec h0 hf) hr' hy
      (headC_lex hsel hs hc hn l (k + 1) _ _ (fun j hj => by have := hl (j + 1) (by simp; omega); simpa [Nat.add_assoc, Nat.add_comm 1 j] using this) (by simp only [List.length_cons] at hk; omega) (inv.set hr' hkn) hB' hK)

/-- n operations quiet in the class, in the text's order; then the others, which come up in one order alone, from any world of the class -/
theorem region_tail {id : Nat} {Q : Exit → Act → World → Prop} {a : Act} {w : World} {l : List Oper} (n : Nat) (hm : P.follows .mixedOrders = true) (hB : Region.lexTailB .any l.toArray n = true)
    (hC : C { w with drawn := w.drawn + 1 })
    (h : wpQuiet P l.toArray C (fun a' => ∀ w', C w' → wpList P l.toArray Q (l.drop n) a' w') (l.take n) a) : (Code.region id l.toArray true).wp P Q a w := by
  simp only [Region.lexTailB, Bool.and_eq_true, decide_eq_true_eq] at hB
  obtain ⟨⟨⟨⟨hsel, hn⟩, hs⟩, hc⟩, hlex⟩ := hB
  have hn' : n < l.length := by simpa using hn
  have htl : (l.take n).length = n := by simp; omega
  have hdl : (l.drop n).length = l.toArray.size - n := by simp
  have inv0 : HeadInv .any l.toArray n (Array.replicate l.toArray.size false) :=
    ⟨by simp, fun j oj _ hl => (by rw [getD_replicate_false] at hl; cases hl), fun t _ ht => getD_in (by simpa using ht) (getD_replicate_false _ _)⟩
  have H := headC_lex (md := .any) (g := l.toArray.size - n) hsel hs hc hn (l.take n) 0 _ a (fun j hj => by
    have hj' : j < n := by rw [htl] at hj; exact hj
    simp [hj']) (by simpa using htl) inv0 (by rw [htl]; exact hlex) h
  refine wp_region_any hm ?_
  have := headC_any (Q := Q) (g := l.toArray.size - n) (fun got a' w' hw' hL => by
    have := wpAny_of_seq (md := .any) (Q' := Q) (l.drop n) n got a' w' (fun j => by simp [List.getElem?_drop]) (by rw [hdl]; exact hL.1) (hL.2 w' hw')
    rwa [hdl] at this) _ _ _ _ hC H
  rw [htl, show n + (l.toArray.size - n) = l.toArray.size by omega] at this
  exact this
end

/-! ### the class: from w on, memory has only been made. T, f: the worlds of the class by name -/
def Class (w : World) {T : Type} (f : T → World) : Prop := (∀ x, Made w.heap.size w (f x)) ∧ (∀ x v, Made (f x).heap.size (f x) v → ∃ y, v = f y)
theorem made_draw (w : World) : Made w.heap.size w { w with drawn := w.drawn + 1 } := (Made.rfl_ w.heap.size w).draws 1
section
variable {P : Program}
/-- all operations read, or call what only makes memory -/
theorem reg_made {id : Nat} {Q : Exit → Act → World → Prop} {a : Act} {w : World} {l : List Oper} (hm : P.follows .mixedOrders = true) (hB : Region.lexB .any l.toArray = true)
    (h : ∀ (T : Type) (_ : Nonempty T) (f : T → World), Class w f → wpQuiet P l.toArray (fun w' => ∃ x, w' = f x) (fun a' => ∀ w', (∃ x, w' = f x) → Q .normal a' w') l a) : (Code.region id l.toArray true).wp P Q a w := by
  have hT := h {v // Made w.heap.size w v} ⟨w, Made.rfl_ _ _⟩ Subtype.val ⟨fun x => x.2, fun x v hv => ⟨⟨v, x.2.then_ (hv.low x.2.1.size)⟩, rfl⟩⟩
  exact wp_region_quiet (C := fun w' => ∃ x : {v // Made w.heap.size w v}, w' = x.1) hm hB ⟨⟨_, made_draw w⟩, rfl⟩ hT
/-- the same for the first n; the tail from any world of the class -/
theorem reg_made_tail {id : Nat} {Q : Exit → Act → World → Prop} {a : Act} {w : World} {l : List Oper} (n : Nat) (hm : P.follows .mixedOrders = true) (hB : Region.lexTailB .any l.toArray n = true)
    (h : ∀ (T : Type) (_ : Nonempty T) (f : T → World), Class w f → wpQuiet P l.toArray (fun w' => ∃ x, w' = f x) (fun a' => ∀ w', (∃ x, w' = f x) → wpList P l.toArray Q (l.drop n) a' w') (l.take n) a) : (Code.region id l.toArray true).wp P Q a w := by
  have hT := h {v // Made w.heap.size w v} ⟨w, Made.rfl_ _ _⟩ Subtype.val ⟨fun x => x.2, fun x v hv => ⟨⟨v, x.2.then_ (hv.low x.2.1.size)⟩, rfl⟩⟩
  exact region_tail (C := fun w' => ∃ x : {v // Made w.heap.size w v}, w' = x.1) n hm hB ⟨⟨_, made_draw w⟩, rfl⟩ hT

variable {T : Type} {f : T → World} {w : World} {k : FuncId} {args : Array Value} {v : Value}
theorem Class.reads (h : Class w f) {p : Addr} {u : Value} (k : w.cell? p = some u) (x : T) : (f x).cell? p = some u := (h.1 x).reads k
theorem Class.free (h : Class w f) {p : Addr} {b : Bool} (k : w.frozen? p = b) (x : T) : (f x).frozen? p = b := ((h.1 x).2 p).trans k
/-- a callee that only makes memory -/
theorem Class.made (h : Class w f) {x : T} (hc : Calls P k args (f x) fun e w' => e = .returned v ∧ Made (f x).heap.size (f x) w') : Calls P k args (f x) fun e w'' => e = .returned v ∧ ∃ m, w'' = f m :=
  hc.mono fun _ _ ⟨he, hw⟩ => ⟨he, h.2 x _ hw⟩
/-- a callee that leaves the world -/
theorem Class.same (h : Class w f) {x : T} (hc : Calls P k args (f x) fun e w' => e = .returned v ∧ f x = w') : Calls P k args (f x) fun e w'' => e = .returned v ∧ ∃ m, w'' = f m :=
  hc.mono fun _ _ ⟨he, hw⟩ => ⟨he, x, hw.symm⟩
/-- a callee that draws -/
theorem Class.drawn (h : Class w f) {x : T} (hc : Calls P k args (f x) fun e w' => e = .returned v ∧ ∃ n, w' = (f x).drewN n) : Calls P k args (f x) fun e w'' => e = .returned v ∧ ∃ m, w'' = f m :=
  hc.mono fun _ _ ⟨he, n, hw⟩ => ⟨he, h.2 x _ (by rw [hw]; exact (Made.rfl_ _ _).draws n)⟩
theorem Class.here (h : Class w f) {w' : World} (k : ∃ x, w' = f x) : Made w.heap.size w w' := by obtain ⟨x, rfl⟩ := k; exact h.1 x
end
end Go.Proofs.YtmdhlobonnikcaaDoor.Fx

/- Regions that draw their order and make variables: the makings come up whenever they like; one walk in the text's order all the same. -/
namespace Go.Proofs.YtmdhlobonnikcaaDoor.Fx
open Go.ChangeShapes Go.WideShapes Go.ChangeAt Go.RowKit
set_option linter.unusedVariables false

/-- an operation that makes a variable of these cells -/
structure Alc (P : Program) (o : Oper) (d : Tmp) (t : TypeId) (z : Array Value) : Prop where
  dst : o.dst = some d
  guard : o.guard = none
  runs : ∀ (a : Act) (w : World), (execOp a.eval o).run P w = .ok (.value (.pointer (some ⟨w.heap.size, 0, none⟩))) (w.alloc (.cells z t))

/-- which block each making got -/
def upd (G : Nat → Option Nat) (i g : Nat) : Nat → Option Nat := fun j => if j = i then some g else G j
theorem upd_comm (G : Nat → Option Nat) {i j : Nat} (h : i ≠ j) (g k : Nat) : upd (upd G i g) j k = upd (upd G j k) i g := by
  funext x; unfold upd
  by_cases h1 : x = i
  · have h2 : ¬ x = j := fun e => h (h1.symm.trans e)
    simp [h1, h]
  · simp [h1]
/-- from w on memory has only been made, and these blocks are there -/
def Cl (w : World) (al : Nat → TypeId × Array Value) (G : Nat → Option Nat) (v : World) : Prop :=
  Made w.heap.size w v ∧ (∀ i g, G i = some g → w.heap.size ≤ g ∧ Has v g (al i).1 (al i).2) ∧ (∀ i j g, G i = some g → G j = some g → i = j)
section
variable {w : World} {al : Nat → TypeId × Array Value} {G : Nat → Option Nat}
theorem Cl.step {u v : World} (h : Cl w al G u) (k : Made u.heap.size u v) : Cl w al G v :=
  ⟨h.1.then_ (k.low h.1.1.size), fun i g e => ⟨(h.2.1 i g e).1, (h.2.1 i g e).2.stays k (h.2.1 i g e).2.here⟩, h.2.2⟩
theorem Cl.new {u : World} (h : Cl w al G u) (i : Nat) : Cl w al (upd G i u.heap.size) (u.alloc (.cells (al i).2 (al i).1)) := by
  refine ⟨h.1.cells h.1.1.size _ _, fun j g e => ?_, fun j k g ej ek => ?_⟩
  · unfold upd at e
    split at e
    · rename_i hj
      subst hj
      cases e
      exact ⟨h.1.1.size, has_new _ _ _⟩
    · exact ⟨(h.2.1 j g e).1, (h.2.1 j g e).2.more _⟩
  · unfold upd at ej ek
    split at ej <;> split at ek
    · rename_i a b; rw [a, b]
    · cases ej
      have := (h.2.1 k _ ek).2.here
      omega
    · cases ek
      have := (h.2.1 j _ ej).2.here
      omega
    · exact h.2.2 j k g ej ek
end

section
variable {P : Program} {ops : Array Oper} {md : Region.Mode} {w : World} {al : Nat → TypeId × Array Value} {n m : Nat}

/-- one value, in whatever class -/
def YA (P : Program) (ops : Array Oper) (w : World) (al : Nat → TypeId × Array Value) (o : Oper) (v : Value) (a : Act) : Prop := ∀ G, (∃ u, Cl w al G u) → YieldsIn P ops (Cl w al G) o v a

theorem YA.put {oi oj : Oper} {v u : Value} {a : Act} (hy : YA P ops w al oi v a) (hsi : ∀ cs b, oi.op ≠ .select cs b) (h : ∀ d, oj.dst = some d → d ∉ oi.looksAt ops) : YA P ops w al oi v (a.put oj.dst u) :=
  fun G hG => (hy G hG).of_same (execOp_put oi hsi a oj.dst u h) (wanted_put oi a oj.dst u h)
theorem YA.unput {oi oj : Oper} {v u : Value} {a : Act} (hy : YA P ops w al oi v (a.put oj.dst u)) (hsi : ∀ cs b, oi.op ≠ .select cs b) (h : ∀ d, oj.dst = some d → d ∉ oi.looksAt ops) : YA P ops w al oi v a :=
  fun G hG => (hy G hG).of_same (execOp_put oi hsi a oj.dst u h).symm (wanted_put oi a oj.dst u h).symm

/-- these, and what they wait for, f times over -/
def down (md : Region.Mode) (ops : Array Oper) : Nat → List Nat → List Nat
  | 0, S => S
  | f + 1, S => down md ops f ((List.range ops.size).filter fun i => S.contains i || S.any fun j => Region.waitsFor md ops j i)
theorem down_got {k : Nat} {got : Array Bool} (inv : HeadInv md ops k got) : ∀ (f : Nat) (S : List Nat), (∀ j, j ∈ S → got.getD j false = true) → ∀ i, i ∈ down md ops f S → got.getD i false = true
  | 0, S, h, i, hi => h i hi
  | f + 1, S, h, i, hi => by
    refine down_got inv f _ (fun j hj => ?_) i hi
    have h1 := (List.mem_filter.1 hj).2
    simp only [Bool.or_eq_true, List.contains_iff_mem, List.any_eq_true] at h1
    rcases h1 with h1 | ⟨m, hm, h2⟩
    · exact h j h1
    · obtain ⟨o', ho', e, he, hb, hon⟩ := Region.waitsFor_spec h2
      rw [← hon]
      exact inv.closed m o' ho' (h m hm) e he hb
/-- the first of the tail waits for every one of the head but p -/
def waitB (md : Region.Mode) (ops : Array Oper) (k p : Nat) : Bool := (List.range k).all fun i => i == p || Region.waitsFor md ops k i || ((List.range k).any fun j => Region.waitsFor md ops k j && Region.waitsFor md ops j i) || (down md ops 6 ((List.range k).filter fun j => Region.waitsFor md ops k j)).contains i
theorem ready_le {k j : Nat} {got : Array Bool} (hc : Region.chainB md ops k = true) (inv : HeadInv md ops k got) (hj : j ∈ Region.ready md ops got) : j ≤ k := by
  refine Nat.not_lt.1 fun h => ?_
  obtain ⟨_, ot, hot, hall⟩ := mem_ready.1 hj
  have htlt : j < ops.size := (Array.getElem?_eq_some_iff.1 hot).1
  have h1 := List.all_eq_true.1 hc j (List.mem_range.2 htlt)
  simp only [Bool.or_eq_true, decide_eq_true_eq] at h1
  rcases h1 with h1 | h1
  · omega
  · obtain ⟨o', ho', e, he, hb, hon⟩ := Region.waitsFor_spec h1
    have e1 : o' = ot := Option.some.inj (ho'.symm.trans hot)
    subst e1
    have h2 := hall e he hb
    rw [hon, getD_both (inv.tail (j - 1) (by omega) (by omega))] at h2
    cases h2
theorem ready_last {k i p : Nat} {got : Array Bool} (hw : waitB md ops k p = true) (inv : HeadInv md ops k got) (hj : k ∈ Region.ready md ops got) (hi : i < k) (hun : got.getD i true = false) : i = p := by
  have h1 := List.all_eq_true.1 hw i (List.mem_range.2 hi)
  simp only [Bool.or_eq_true, beq_iff_eq] at h1
  obtain ⟨_, ot, hot, hall⟩ := mem_ready.1 hj
  have direct : ∀ j, Region.waitsFor md ops k j = true → got.getD j false = true := fun j h => by
    obtain ⟨o', ho', e, he, hb, hon⟩ := Region.waitsFor_spec h
    have e1 : o' = ot := Option.some.inj (ho'.symm.trans hot)
    subst e1
    rw [← hon]
    exact hall e he hb
  have no : got.getD i false = true → False := fun h => by rw [getD_both hun] at h; cases h
  rcases h1 with ((h1 | h1) | h1) | h1
  · exact h1
  · exact (no (direct i h1)).elim
  · obtain ⟨j, _, h2⟩ := List.any_eq_true.1 h1
    simp only [Bool.and_eq_true] at h2
    obtain ⟨o', ho', e, he, hb, hon⟩ := Region.waitsFor_spec h2.2
    refine (no ?_).elim
    rw [← hon]
    exact inv.closed j o' ho' (direct j h2.1) e he hb
  · exact (no (down_got inv 6 _ (fun j hj => direct j (List.mem_filter.1 hj).2) i (List.contains_iff_mem.1 h1))).elim
/-- it asks nothing of the world -/
def Pure (P : Program) (o : Oper) : Prop := ∀ (a : Act) (C : World → Prop) (w : World) (v : Value), o.quietAt P a C w v → ∀ w', (execOp a.eval o).run P w' = .ok (.value v) w'
/-- a panic's post asks nothing of the frame -/
def NoFrame (Q : Exit → Act → World → Prop) : Prop := ∀ c a a' w, Q (.panic c) a' w → Q (.panic c) a w

def FL (P : Program) (md : Region.Mode) (ops : Array Oper) (w : World) (al : Nat → TypeId × Array Value) (n m g : Nat) (Q : Exit → Act → World → Prop) (L : (Nat → Option Nat) → Array Bool → Act → Prop) : Nat → (Nat → Option Nat) → Array Bool → Act → Prop
  | 0, G, got, a => L G got a
  | f + 1, G, got, a => Region.ready md ops got ≠ [] ∧ ∀ i ∈ Region.ready md ops got,
      (i < n ∧ ∃ o v, ops[i]? = some o ∧ YA P ops w al o v a ∧ FL P md ops w al n m g Q L f G (got.setIfInBounds i true) (a.put o.dst v)) ∨
      (n ≤ i ∧ i < n + m ∧ ∃ o d, ops[i]? = some o ∧ Alc P o d (al i).1 (al i).2 ∧ ∀ b, FL P md ops w al n m g Q L f (upd G i b) (got.setIfInBounds i true) (a.put (some d) (.pointer (some ⟨b, 0, none⟩)))) ∨
      (i = n + m ∧ ∀ u, Cl w al G u → wpOp P ops Q i (wpAny P md ops Q (f + g) (got.setIfInBounds i true)) a u)

theorem FL_any {g : Nat} {L : (Nat → Option Nat) → Array Bool → Act → Prop} {Q : Exit → Act → World → Prop}
    (hL : ∀ G got a u, Cl w al G u → L G got a → wpAny P md ops Q g got a u) :
    ∀ (f : Nat) (G : Nat → Option Nat) (got : Array Bool) (a : Act) (u : World), Cl w al G u → FL P md ops w al n m g Q L f G got a → wpAny P md ops Q (f + g) got a u
  | 0, G, got, a, u, hu, h => by rw [Nat.zero_add]; exact hL _ _ _ _ hu h
  | f + 1, G, got, a, u, hu, h => by
    rw [show f + 1 + g = (f + g) + 1 by omega]
    refine ⟨fun h0 => absurd h0 h.1, fun i hi => ?_⟩
    rcases h.2 i hi with ⟨_, o, v, ho, hy, hf⟩ | ⟨_, _, o, d, ho, ha, hf⟩ | ⟨_, hf⟩
    · refine wpOp_of_qOp (C := Cl w al G) (K := fun a' => a' = a.put o.dst v) hu (fun a' u' hu' e => ?_) ((hy G ⟨u, hu⟩).qOp ho rfl)
      rw [e]
      exact FL_any hL f _ _ _ _ hu' hf
    · unfold wpOp
      simp only [ho]
      have hw : Region.wanted o (yielded ops a.tmps) = true := by unfold Region.wanted; rw [ha.guard]
      rw [if_pos hw]
      left
      unfold Oper.wp
      rw [ha.runs, Oper.upon_value, ha.dst]
      exact FL_any hL f _ _ _ _ (hu.new i) (hf _)
    · exact hf u hu

theorem FL_first {i g p : Nat} {Q : Exit → Act → World → Prop} {oi : Oper} {v : Value} {L : (Nat → Option Nat) → Array Bool → Act → Prop} (hL : ∀ G got a u, Cl w al G u → L G got a → wpAny P md ops Q g got a u) (hQ : p < n → NoFrame Q) (hpu : ∀ o, ops[p]? = some o → Pure P o) (hi : ops[i]? = some oi) (hsel : ∀ (j : Nat) (o : Oper) cs b, ops[j]? = some o → o.op ≠ .select cs b)
    (hs : waitB md ops (n + m) p = true) (hc : Region.chainB md ops (n + m) = true) (hn : n + m < ops.size) (hin : i < n)
    (hdone : ∀ G got a, L G got a → ∀ j ∈ Region.ready md ops got, n + m ≤ j) :
    ∀ (f : Nat) (G : Nat → Option Nat) (got : Array Bool) (a : Act), HeadInv md ops (n + m) got →
      (∀ j oj, ops[j]? = some oj → j ≠ i → got.getD j true = false → (∀ e ∈ oj.after, Region.binds md e = true → e.on ≠ i) → oi.apart ops oj = true) →
      i ∈ Region.ready md ops got → YA P ops w al oi v a →
      FL P md ops w al n m g Q L f G (got.setIfInBounds i true) (a.put oi.dst v) → FL P md ops w al n m g Q L (f + 1) G got a
  | f, G, got, a, inv, hfree, hr, hy, H => by
    have hun := (mem_ready.1 hr).1
    refine ⟨fun h => (by rw [h] at hr; cases hr), fun j hj => ?_⟩
    have hle := ready_le hc inv hj
    by_cases hji : j = i
    · subst hji; exact .inl ⟨hin, oi, v, hi, hy, H⟩
    · have hrj := ready_mono hj hji
      obtain ⟨hjun, oj, hoj, hall⟩ := mem_ready.1 hj
      have hnot : ∀ e ∈ oj.after, Region.binds md e = true → e.on ≠ i := fun e he hb heq => by
        have h1 := hall e he hb
        rw [heq, getD_both hun] at h1
        cases h1
      have hap := hfree j oj hoj hji hjun hnot
      obtain ⟨p1, p2, p3⟩ := Oper.apart_spec hap
      have hfree' : ∀ k ok, ops[k]? = some ok → k ≠ i → (got.setIfInBounds j true).getD k true = false → (∀ e ∈ ok.after, Region.binds md e = true → e.on ≠ i) → oi.apart ops ok = true := fun k ok hk hki hun' hno => by
        refine hfree k ok hk hki ?_ hno
        by_cases hjk : j = k
        · subst hjk; exact hjun
        · rw [getD_set_ne true hjk] at hun'; exact hun'
      by_cases hjl : j = n + m
      · have hip : i = p := ready_last hs inv (by rw [← hjl]; exact hj) (by omega) hun
        refine .inr (.inr ⟨hjl, fun u hu => ?_⟩)
        have hy' : Yields P ops oi v a := by
          rcases hy G ⟨u, hu⟩ with ⟨hw, hv⟩ | hw
          · exact .inl ⟨hw, hpu oi (by rw [← hip]; exact hi) a _ u v (hv u hu)⟩
          · exact .inr hw
        have hQ' := hQ (by omega)
        have fin : ∀ N, wpOp P ops Q j (wpAny P md ops Q N ((got.setIfInBounds i true).setIfInBounds j true)) (a.put oi.dst v) u → wpOp P ops Q j (wpAny P md ops Q (N + 1) (got.setIfInBounds j true)) a u := fun N h => by
          refine wpOp_mono (fun a' w' h3 => wpAny_first hi hsel (fun c a w h => hQ' c _ _ w h) N (got.setIfInBounds j true) a' w' hfree' (ready_mono hr (Ne.symm hji)) h3.1 ?_) (wpOp_put hoj hap (fun cs b => hsel i oi cs b hi) (fun cs b => hsel j oj cs b hoj) (fun c a w h => hQ' c _ _ w h) hy' h)
          rw [Array.setIfInBounds_comm _ _ hji]
          exact h3.2
        match f, H with
        | 0, H =>
          have X := hL _ _ _ u hu H
          match g, X with
          | 0, X => rw [X.1] at hrj; cases hrj
          | g + 1, X => rw [Nat.zero_add]; exact fin g (X.2 j hrj)
        | f + 1, H =>
          rcases H.2 j hrj with ⟨h, _⟩ | ⟨_, h, _⟩ | ⟨_, h⟩
          · omega
          · omega
          · rw [show f + 1 + g = f + g + 1 by omega]; exact fin _ (h u hu)
      have hjn : j < n + m := by omega
      match f, H with
      | 0, H => have := hdone _ _ _ H j hrj; omega
      | f + 1, H =>
        rcases H.2 j hrj with ⟨hjn', o, u, ho, hyj, hf⟩ | ⟨h1, h2, o, d, ho, ha, hf⟩ | ⟨h1, _⟩
        · have e : o = oj := Option.some.inj (ho.symm.trans hoj)
          subst e
          refine .inl ⟨hjn', o, u, ho, hyj.unput (fun cs b => hsel j o cs b ho) p1, ?_⟩
          refine FL_first hL hQ hpu hi hsel hs hc hn hin hdone f G _ _ (inv.set hj hjn) hfree' (ready_mono hr (Ne.symm hji)) (hy.put (fun cs b => hsel i oi cs b hi) p3) ?_
          rw [Array.setIfInBounds_comm _ _ hji, ← Act.put_comm a v u p2]
          exact hf
        · have e : o = oj := Option.some.inj (ho.symm.trans hoj)
          subst e
          refine .inr (.inl ⟨h1, h2, o, d, ho, ha, fun g => ?_⟩)
          have hyi : YA P ops w al oi v (a.put o.dst (.pointer (some ⟨g, 0, none⟩))) := hy.put (fun cs b => hsel i oi cs b hi) p3
          have hg := hf g
          rw [← ha.dst] at hg ⊢
          refine FL_first hL hQ hpu hi hsel hs hc hn hin hdone f _ _ _ (inv.set hj hjn) hfree' (ready_mono hr (Ne.symm hji)) hyi ?_
          rw [Array.setIfInBounds_comm _ _ hji, ← Act.put_comm a v _ p2]
          exact hg
        · omega

theorem FL_firstA {i gg p : Nat} {Q : Exit → Act → World → Prop} {oi : Oper} {di : Tmp} {L : (Nat → Option Nat) → Array Bool → Act → Prop} (hi : ops[i]? = some oi) (ha : Alc P oi di (al i).1 (al i).2)
    (hs : waitB md ops (n + m) p = true) (hp : p < n ∨ n + m ≤ p) (hc : Region.chainB md ops (n + m) = true) (hn : n + m < ops.size) (hi0 : n ≤ i) (hin : i < n + m)
    (hdone : ∀ G got a, L G got a → ∀ j ∈ Region.ready md ops got, n + m ≤ j) :
    ∀ (f : Nat) (G : Nat → Option Nat) (got : Array Bool) (a : Act), HeadInv md ops (n + m) got → (∀ j, j < n → got.getD j true = true) →
      (∀ j oj, ops[j]? = some oj → j ≠ i → got.getD j true = false → (∀ e ∈ oj.after, Region.binds md e = true → e.on ≠ i) → oi.apart ops oj = true) →
      i ∈ Region.ready md ops got →
      (∀ g, FL P md ops w al n m gg Q L f (upd G i g) (got.setIfInBounds i true) (a.put (some di) (.pointer (some ⟨g, 0, none⟩)))) → FL P md ops w al n m gg Q L (f + 1) G got a
  | f, G, got, a, inv, hall0, hfree, hr, H => by
    have hun := (mem_ready.1 hr).1
    refine ⟨fun h => (by rw [h] at hr; cases hr), fun j hj => ?_⟩
    have hjn : j < n + m := by
      have hle := ready_le hc inv hj
      refine Nat.lt_of_le_of_ne hle fun e => ?_
      have := ready_last (i := i) hs inv (by rw [← e]; exact hj) hin hun
      omega
    obtain ⟨hjun, oj, hoj, hall⟩ := mem_ready.1 hj
    have hjn0 : n ≤ j := by
      refine Nat.not_lt.1 fun h => ?_
      rw [hall0 j h] at hjun; cases hjun
    by_cases hji : j = i
    · subst hji; exact .inr (.inl ⟨hi0, hin, oi, di, hi, ha, H⟩)
    · have hrj := ready_mono hj hji
      match f, H with
      | 0, H => have := hdone _ _ _ (H 0) j hrj; omega
      | f + 1, H =>
        have hnot : ∀ e ∈ oj.after, Region.binds md e = true → e.on ≠ i := fun e he hb heq => by
          have h1 := hall e he hb
          rw [heq, getD_both hun] at h1
          cases h1
        obtain ⟨p1, p2, p3⟩ := Oper.apart_spec (hfree j oj hoj hji hjun hnot)
        have hfree' : ∀ k ok, ops[k]? = some ok → k ≠ i → (got.setIfInBounds j true).getD k true = false → (∀ e ∈ ok.after, Region.binds md e = true → e.on ≠ i) → oi.apart ops ok = true := fun k ok hk hki hun' hno => by
          refine hfree k ok hk hki ?_ hno
          by_cases hjk : j = k
          · subst hjk; exact hjun
          · rw [getD_set_ne true hjk] at hun'; exact hun'
        have key : ∀ g, ∃ d, Alc P oj d (al j).1 (al j).2 ∧ ∀ g', FL P md ops w al n m gg Q L f (upd (upd G i g) j g') ((got.setIfInBounds i true).setIfInBounds j true) ((a.put (some di) (.pointer (some ⟨g, 0, none⟩))).put (some d) (.pointer (some ⟨g', 0, none⟩))) := fun g => by
          rcases (H g).2 j hrj with ⟨hjn', _⟩ | ⟨h1, h2, o, d, ho, had, hf⟩ | ⟨h1, _⟩
          · omega
          · have e : o = oj := Option.some.inj (ho.symm.trans hoj)
            subst e
            exact ⟨d, had, hf⟩
          · omega
        obtain ⟨d, had, _⟩ := key 0
        refine .inr (.inl ⟨hjn0, hjn, oj, d, hoj, had, fun g' => ?_⟩)
        refine FL_firstA hi ha hs hp hc hn hi0 hin hdone f _ _ _ (inv.set hj hjn) (fun k hk => by
          have hjk : j ≠ k := by omega
          rw [getD_set_ne true hjk]; exact hall0 k hk) hfree' (ready_mono hr (Ne.symm hji)) fun g => ?_
        obtain ⟨d', had', hf⟩ := key g
        have e : d' = d := Option.some.inj (had'.dst.symm.trans had.dst)
        subst e
        rw [Array.setIfInBounds_comm _ _ hji, upd_comm G hji]
        have hp : ∀ x, some di = some x → some d' ≠ some x := fun x hx => by rw [← had.dst]; exact p2 x (by rw [ha.dst]; exact hx)
        rw [← Act.put_comm a _ _ hp]
        exact hf g'

/-- the head in the text's order -/
def Ch (P : Program) (ops : Array Oper) (w : World) (al : Nat → TypeId × Array Value) (A : Act) : List Oper → Act → Prop
  | [], a => a = A
  | o :: l, a => ∃ v, YA P ops w al o v a ∧ Ch P ops w al A l (a.put o.dst v)
/-- the makings behind it -/
def Ah (P : Program) (al : Nat → TypeId × Array Value) (Lq : (Nat → Option Nat) → Act → Prop) : List Oper → Nat → (Nat → Option Nat) → Act → Prop
  | [], _, G, a => Lq G a
  | o :: l, k, G, a => ∃ d, Alc P o d (al k).1 (al k).2 ∧ ∀ g, Ah P al Lq l (k + 1) (upd G k g) (a.put (some d) (.pointer (some ⟨g, 0, none⟩)))

theorem getD_listed {got : Array Bool} {k j : Nat} (hk : k < got.size) (h : ∀ j, j < k → got.getD j true = true) (hj : j < k + 1) : (got.setIfInBounds k true).getD j true = true := by
  by_cases e : k = j
  · subst e; simp [hk]
  · rw [getD_set_ne true e]; exact h j (by omega)

theorem FL_lexA {g p : Nat} {Q : Exit → Act → World → Prop} {Lq : (Nat → Option Nat) → Act → Prop} (hs : waitB md ops (n + m) p = true) (hp : p < n ∨ n + m ≤ p) (hc : Region.chainB md ops (n + m) = true) (hn : n + m < ops.size) :
    ∀ (l : List Oper) (k : Nat) (G : Nat → Option Nat) (got : Array Bool) (a : Act), (∀ j, j < l.length → l[j]? = ops[k + j]?) → n ≤ k → k + l.length = n + m → HeadInv md ops (n + m) got → (∀ j, j < n → got.getD j true = true) →
    Region.lexHead md ops g l.length k got = true → Ah P al Lq l k G a →
    FL P md ops w al n m g Q (fun G' got' a' => Region.seqB md ops g (n + m) got' = true ∧ Lq G' a') l.length G got a
  | [], k, G, got, a, _, _, hk, _, _, hB, h => by
    obtain rfl : k = n + m := by simpa using hk
    exact ⟨by simpa [Region.lexHead] using hB, h⟩
  | o :: l, k, G, got, a, hl, hnk, hk, inv, hall, hB, h => by
    have h0 : ops[k]? = some o := by simpa using (hl 0 (by simp)).symm
    simp only [List.length_cons, Region.lexHead, Bool.and_eq_true] at hB
    obtain ⟨⟨hr, hf⟩, hB'⟩ := hB
    have hkn : k < n + m := by simp only [List.length_cons] at hk; omega
    have hr' : k ∈ Region.ready md ops got := by simpa using hr
    obtain ⟨d, ha, hh⟩ := h
    refine FL_firstA h0 ha hs hp hc hn hnk hkn (fun G' got' a' hL => seqB_ready hL.1) l.length G got a inv hall (Region.free_spec h0 hf) hr' fun b => ?_
    exact FL_lexA hs hp hc hn l (k + 1) _ _ _ (fun j hj => by have := hl (j + 1) (by simp; omega); simpa [Nat.add_assoc, Nat.add_comm 1 j] using this) (by omega) (by simp only [List.length_cons] at hk; omega) (inv.set hr' hkn)
      (fun j hj => by
        have hjk : k ≠ j := by omega
        rw [getD_set_ne true hjk]; exact hall j hj) hB' (hh b)

theorem FL_lex {g p : Nat} {Q : Exit → Act → World → Prop} {Lq : (Nat → Option Nat) → Act → Prop} {A : Act} {la : List Oper} (hL : ∀ G got a u, Cl w al G u → (Region.seqB md ops g (n + m) got = true ∧ Lq G a) → wpAny P md ops Q g got a u) (hQ : p < n → NoFrame Q) (hpu : ∀ o, ops[p]? = some o → Pure P o) (hp : p < n ∨ n + m ≤ p) (hla : ∀ j, j < la.length → la[j]? = ops[n + j]?) (hlm : la.length = m) (hsel : Region.noSelect ops = true)
    (hs : waitB md ops (n + m) p = true) (hc : Region.chainB md ops (n + m) = true) (hn : n + m < ops.size) :
    ∀ (l : List Oper) (k : Nat) (G : Nat → Option Nat) (got : Array Bool) (a : Act), (∀ j, j < l.length → l[j]? = ops[k + j]?) → k + l.length = n → HeadInv md ops (n + m) got → (∀ j, j < k → got.getD j true = true) →
    Region.lexHead md ops g (l.length + m) k got = true → Ch P ops w al A l a → Ah P al Lq la n G A →
    FL P md ops w al n m g Q (fun G' got' a' => Region.seqB md ops g (n + m) got' = true ∧ Lq G' a') (l.length + m) G got a
  | [], k, G, got, a, _, hk, inv, hall, hB, h, hA => by
    obtain rfl : k = n := by simpa using hk
    subst hlm
    simp only [List.length_nil, Nat.zero_add] at hB ⊢
    rw [show a = A from h]
    exact FL_lexA hs hp hc hn la k G got A hla (Nat.le_refl _) rfl inv hall hB hA
  | o :: l, k, G, got, a, hl, hk, inv, hall, hB, h, hA => by
    have h0 : ops[k]? = some o := by simpa using (hl 0 (by simp)).symm
    rw [show (o :: l).length + m = (l.length + m) + 1 by simp only [List.length_cons]; omega] at hB ⊢
    simp only [Region.lexHead, Bool.and_eq_true] at hB
    obtain ⟨⟨hr, hf⟩, hB'⟩ := hB
    have hkn : k < n := by simp only [List.length_cons] at hk; omega
    have hr' : k ∈ Region.ready md ops got := by simpa using hr
    obtain ⟨v, hy, hK⟩ := h
    exact FL_first hL hQ hpu h0 (Region.noSelect_spec hsel) hs hc hn hkn (fun G' got' a' hL => seqB_ready hL.1) (l.length + m) G got a inv (Region.free_spec h0 hf) hr' hy
      (FL_lex hL hQ hpu hp hla hlm hsel hs hc hn l (k + 1) G _ _ (fun j hj => by have := hl (j + 1) (by simp; omega); simpa [Nat.add_assoc, Nat.add_comm 1 j] using this) (by simp only [List.length_cons] at hk; omega) (inv.set hr' (by omega))
        (fun j hj => getD_listed (by rw [inv.size]; omega) hall hj) hB' hK hA)

/-! ### from the walks to the chain: the values are what the last frame holds -/
theorem quiet_cons {C : World → Prop} {Q : Act → Prop} {o : Oper} {l : List Oper} {a : Act} (h : wpQuiet P ops C Q (o :: l) a) : ∃ v, YieldsIn P ops C o v a ∧ wpQuiet P ops C Q l (a.put o.dst v) := by
  unfold wpQuiet at h
  by_cases hw : Region.wanted o (yielded ops a.tmps) = true
  · rw [if_pos hw] at h
    obtain ⟨v, h1, h2⟩ := h
    exact ⟨v, .inl ⟨hw, h1⟩, h2⟩
  · rw [if_neg hw] at h
    exact ⟨undef, .inr ⟨by simpa using hw, rfl⟩, h⟩
theorem put_size (a : Act) (d : Option Tmp) (v : Value) : (a.put d v).tmps.size = a.tmps.size := by
  cases d <;> simp [Act.put]
theorem put_get (a : Act) (d : Tmp) (v : Value) (h : d < a.tmps.size) : (a.put (some d) v).tmps[d]? = some v := by
  simp [Act.put, h]
theorem put_other (a : Act) (d x : Tmp) (v : Value) (h : d ≠ x) : (a.put (some d) v).tmps[x]? = a.tmps[x]? := by
  simp [Act.put, h]
/-- each writes a slot of its own -/
def dstB (N : Nat) : List Oper → Bool
  | [] => true
  | o :: l => (match o.dst with | some d => decide (d < N) && l.all (fun o' => o'.dst != some d) | none => false) && dstB N l
theorem last_slot {C : World → Prop} {A : Act} {d : Tmp} : ∀ (l : List Oper) (a : Act), wpQuiet P ops C (fun a' => a' = A) l a → (∀ o ∈ l, o.dst ≠ some d) → A.tmps[d]? = a.tmps[d]?
  | [], a, h, _ => by rw [show a = A from h]
  | o :: l, a, h, hd => by
    obtain ⟨v, _, h'⟩ := quiet_cons h
    rw [last_slot l _ h' fun o' ho' => hd o' (List.mem_cons_of_mem _ ho')]
    have h1 := hd o (List.mem_cons_self ..)
    cases ho : o.dst with
    | none => rfl
    | some x => exact put_other a x d v (fun e => h1 (by rw [ho, e]))
theorem chain_of {A : Act} {N : Nat} : ∀ (l : List Oper) (a : Act), a.tmps.size = N → dstB N l = true → (∀ G, (∃ u, Cl w al G u) → wpQuiet P ops (Cl w al G) (fun a' => a' = A) l a) → Ch P ops w al A l a
  | [], a, _, _, h => h (fun _ => none) ⟨w, Made.rfl_ _ _, fun i g e => (by cases e), fun i j g e => (by cases e)⟩
  | o :: l, a, hN, hD, h => by
    have h0 : ∃ u, Cl w al (fun _ => none) u := ⟨w, Made.rfl_ _ _, fun i g e => (by cases e), fun i j g e => (by cases e)⟩
    unfold dstB at hD
    simp only [Bool.and_eq_true] at hD
    obtain ⟨hd, hD'⟩ := hD
    cases ho : o.dst with
    | none => rw [ho] at hd; cases hd
    | some d =>
      rw [ho] at hd
      simp only [Bool.and_eq_true, decide_eq_true_eq, List.all_eq_true, bne_iff_ne] at hd
      obtain ⟨v, _, hv⟩ := quiet_cons (h _ h0)
      have slot : ∀ G, (∃ u, Cl w al G u) → ∀ x, wpQuiet P ops (Cl w al G) (fun a' => a' = A) l (a.put o.dst x) → A.tmps[d]? = some x := fun G hG x hx => by
        rw [last_slot l _ hx hd.2, ho]
        exact put_get a d x (by rw [hN]; exact hd.1)
      have all : ∀ G, (∃ u, Cl w al G u) → YieldsIn P ops (Cl w al G) o v a ∧ wpQuiet P ops (Cl w al G) (fun a' => a' = A) l (a.put o.dst v) := fun G hG => by
        obtain ⟨x, hy, hx⟩ := quiet_cons (h G hG)
        have e : x = v := Option.some.inj ((slot G hG x hx).symm.trans (slot _ h0 v hv))
        rw [e] at hy hx
        exact ⟨hy, hx⟩
      exact ⟨v, fun G hG => (all G hG).1, chain_of l _ ((put_size ..).trans hN) hD' fun G hG => (all G hG).2⟩
end

section
variable {P : Program}
/-- n operations quiet, in the text's order; m makings; then the others, in one order alone -/
def floatB (md : Region.Mode) (ops : Array Oper) (k p : Nat) : Bool :=
  Region.noSelect ops && decide (k < ops.size) && waitB md ops k p && Region.chainB md ops k && Region.lexHead md ops (ops.size - k) k 0 (Array.replicate ops.size false)
/-- p: an operation of the head for which the first of the tail does not wait -/
theorem region_float {id : Nat} {Q : Exit → Act → World → Prop} {a A : Act} {w : World} {l : List Oper} (n m N p : Nat) (al : Nat → TypeId × Array Value) (hm : P.follows .mixedOrders = true) (hB : floatB .any l.toArray (n + m) p = true)
    (hQ : p < n → NoFrame Q) (hpu : ∀ o, l.toArray[p]? = some o → Pure P o) (hp : p < n ∨ n + m ≤ p)
    (hD : dstB N (l.take n) = true) (hN : a.tmps.size = N)
    (h1 : ∀ (T : Type) (_ : Nonempty T) (f : T → World), Class w f → wpQuiet P l.toArray (fun w' => ∃ x, w' = f x) (fun a' => a' = A) (l.take n) a)
    (h2 : Ah P al (fun G a' => ∀ u, Cl w al G u → wpList P l.toArray Q (l.drop (n + m)) a' u) ((l.drop n).take m) n (fun _ => none) A) : (Code.region id l.toArray true).wp P Q a w := by
  simp only [floatB, Bool.and_eq_true, decide_eq_true_eq] at hB
  obtain ⟨⟨⟨⟨hsel, hn⟩, hs⟩, hc⟩, hlex⟩ := hB
  have hn' : n + m < l.length := by simpa using hn
  have htl : (l.take n).length = n := by simp; omega
  have hml : ((l.drop n).take m).length = m := by simp; omega
  have hdl : (l.drop (n + m)).length = l.toArray.size - (n + m) := by simp
  have inv0 : HeadInv .any l.toArray (n + m) (Array.replicate l.toArray.size false) :=
    ⟨by simp, fun j oj _ hl => (by rw [getD_replicate_false] at hl; cases hl), fun t _ ht => getD_in (by simpa using ht) (getD_replicate_false _ _)⟩
  have hch : Ch P l.toArray w al A (l.take n) a := by
    refine chain_of (N := N) _ _ hN hD fun G hG => ?_
    obtain ⟨u, hu⟩ := hG
    have := h1 {v // Cl w al G v} ⟨⟨u, hu⟩⟩ Subtype.val ⟨fun x => x.2.1, fun x v hv => ⟨⟨v, x.2.step hv⟩, rfl⟩⟩
    have e : (fun w' => ∃ x : {v // Cl w al G v}, w' = x.1) = Cl w al G := by
      funext w'
      exact propext ⟨fun ⟨x, hx⟩ => hx ▸ x.2, fun h => ⟨⟨w', h⟩, rfl⟩⟩
    rw [e] at this
    exact this
  have hL : ∀ G got a' u, Cl w al G u → (Region.seqB .any l.toArray (l.toArray.size - (n + m)) (n + m) got = true ∧ ∀ u, Cl w al G u → wpList P l.toArray Q (l.drop (n + m)) a' u) → wpAny P .any l.toArray Q (l.toArray.size - (n + m)) got a' u := fun G got a' u hu hL => by
    have := wpAny_of_seq (md := .any) (Q' := Q) (l.drop (n + m)) (n + m) got a' u (fun j => by simp [List.getElem?_drop]) (by rw [hdl]; exact hL.1) (hL.2 u hu)
    rwa [hdl] at this
  have H := FL_lex (md := .any) (g := l.toArray.size - (n + m)) (P := P) (w := w) (al := al) (Lq := fun G a' => ∀ u, Cl w al G u → wpList P l.toArray Q (l.drop (n + m)) a' u) (la := (l.drop n).take m) (m := m) (n := n) (A := A) (Q := Q)
    hL hQ hpu hp (fun j hj => by
      have hj' : j < m := by rw [hml] at hj; exact hj
      simp [hj']) hml hsel hs hc hn (l.take n) 0 (fun _ => none) _ a (fun j hj => by
      have hj' : j < n := by rw [htl] at hj; exact hj
      simp [hj']) (by simpa using htl) inv0 (fun j hj => by omega) (by rw [htl]; exact hlex) hch h2
  refine wp_region_any hm ?_
  have c0 : Cl w al (fun _ => none) { w with drawn := w.drawn + 1 } := ⟨made_draw w, fun i g e => (by cases e), fun i j g e => (by cases e)⟩
  have := FL_any hL _ _ _ _ _ c0 H
  rw [htl, show n + m + (l.toArray.size - (n + m)) = l.toArray.size by omega] at this
  exact this

theorem reg_late1 {id : Nat} {Q : Exit → Act → World → Prop} {a : Act} {w : World} {l : List Oper} (n N p : Nat) (d : Tmp) (t : TypeId) (z : Array Value) (o : Oper) (hm : P.follows .mixedOrders = true) (hB : floatB .any l.toArray (n + 1) p = true) (hpu : ∀ o, l.toArray[p]? = some o → Pure P o) (hp : p < n ∨ n + 1 ≤ p)
    (hD : dstB N (l.take n) = true) (hN : a.tmps.size = N) (ho : (l.drop n).take 1 = [o]) (ha : Alc P o d t z)
    (h : ∃ A : Act, (∀ (T : Type) (_ : Nonempty T) (f : T → World), Class w f → wpQuiet P l.toArray (fun w' => ∃ x, w' = f x) (fun a' => a' = A) (l.take n) a) ∧
    (∀ (g : Nat) (v : World), Made w.heap.size w v → w.heap.size ≤ g → Has v g t z → wpList P l.toArray (NoPanic Q) (l.drop (n + 1)) (A.put (some d) (.pointer (some ⟨g, 0, none⟩))) v)) : (Code.region id l.toArray true).wp P Q a w := by
  obtain ⟨A, h1, h2⟩ := h
  refine wp_region_noPanic ?_
  refine region_float (A := A) n 1 N p (fun _ => (t, z)) hm hB (fun _ _ _ _ _ h => h) hpu hp hD hN h1 ?_
  rw [ho]
  refine ⟨d, ha, fun g u hu => ?_⟩
  have h := hu.2.1 n g (by unfold upd; simp)
  exact h2 g u hu.1 h.1 h.2
theorem reg_late2 {id : Nat} {Q : Exit → Act → World → Prop} {a : Act} {w : World} {l : List Oper} (n N p : Nat) (d d' : Tmp) (t t' : TypeId) (z z' : Array Value) (o o' : Oper) (hm : P.follows .mixedOrders = true) (hB : floatB .any l.toArray (n + 2) p = true) (hpu : ∀ o, l.toArray[p]? = some o → Pure P o) (hp : p < n ∨ n + 2 ≤ p)
    (hD : dstB N (l.take n) = true) (hN : a.tmps.size = N) (ho : (l.drop n).take 2 = [o, o']) (ha : Alc P o d t z) (ha' : Alc P o' d' t' z')
    (h : ∃ A : Act, (∀ (T : Type) (_ : Nonempty T) (f : T → World), Class w f → wpQuiet P l.toArray (fun w' => ∃ x, w' = f x) (fun a' => a' = A) (l.take n) a) ∧
    (∀ (g g' : Nat) (v : World), Made w.heap.size w v → w.heap.size ≤ g → w.heap.size ≤ g' → g ≠ g' → Has v g t z → Has v g' t' z' →
      wpList P l.toArray (NoPanic Q) (l.drop (n + 2)) ((A.put (some d) (.pointer (some ⟨g, 0, none⟩))).put (some d') (.pointer (some ⟨g', 0, none⟩))) v)) : (Code.region id l.toArray true).wp P Q a w := by
  obtain ⟨A, h1, h2⟩ := h
  refine wp_region_noPanic ?_
  refine region_float (A := A) n 2 N p (fun i => if i = n then (t, z) else (t', z')) hm hB (fun _ _ _ _ _ h => h) hpu hp hD hN h1 ?_
  rw [ho]
  refine ⟨d, by simpa using ha, fun g => ⟨d', by simpa using ha', fun g' u hu => ?_⟩⟩
  have e1 : upd (upd (fun _ => none) n g) (n + 1) g' n = some g := by unfold upd; simp
  have e2 : upd (upd (fun _ => none) n g) (n + 1) g' (n + 1) = some g' := by unfold upd; simp
  have k1 : w.heap.size ≤ g ∧ Has u g t z := by
    have := hu.2.1 n g e1
    simpa using this
  have k2 : w.heap.size ≤ g' ∧ Has u g' t' z' := by
    have := hu.2.1 (n + 1) g' e2
    simpa using this
  exact h2 g g' u hu.1 k1.1 k2.1 (fun e => by
    have := hu.2.2 n (n + 1) g e1 (by rw [e2, e])
    omega) k1.2 k2.2
theorem reg_float1 {id : Nat} {Q : Exit → Act → World → Prop} {a : Act} {w : World} {l : List Oper} (n N : Nat) (d : Tmp) (t : TypeId) (z : Array Value) (o : Oper) (hm : P.follows .mixedOrders = true) (hB : floatB .any l.toArray (n + 1) l.length = true)
    (hD : dstB N (l.take n) = true) (hN : a.tmps.size = N) (ho : (l.drop n).take 1 = [o]) (ha : Alc P o d t z)
    (h : ∃ A : Act, (∀ (T : Type) (_ : Nonempty T) (f : T → World), Class w f → wpQuiet P l.toArray (fun w' => ∃ x, w' = f x) (fun a' => a' = A) (l.take n) a) ∧
    (∀ (g : Nat) (v : World), Made w.heap.size w v → w.heap.size ≤ g → Has v g t z → wpList P l.toArray Q (l.drop (n + 1)) (A.put (some d) (.pointer (some ⟨g, 0, none⟩))) v)) : (Code.region id l.toArray true).wp P Q a w := by
  have hl : n + 1 < l.length := by
    simp only [floatB, Bool.and_eq_true, decide_eq_true_eq] at hB
    simpa using hB.1.1.1.2
  obtain ⟨A, h1, h2⟩ := h
  refine region_float (A := A) n 1 N l.length (fun _ => (t, z)) hm hB (fun h => absurd h (by omega)) (fun o ho => by simp at ho) (.inr (Nat.le_of_lt hl)) hD hN h1 ?_
  rw [ho]
  refine ⟨d, ha, fun g u hu => ?_⟩
  have h := hu.2.1 n g (by unfold upd; simp)
  exact h2 g u hu.1 h.1 h.2
theorem reg_float2 {id : Nat} {Q : Exit → Act → World → Prop} {a : Act} {w : World} {l : List Oper} (n N : Nat) (d d' : Tmp) (t t' : TypeId) (z z' : Array Value) (o o' : Oper) (hm : P.follows .mixedOrders = true) (hB : floatB .any l.toArray (n + 2) l.length = true)
    (hD : dstB N (l.take n) = true) (hN : a.tmps.size = N) (ho : (l.drop n).take 2 = [o, o']) (ha : Alc P o d t z) (ha' : Alc P o' d' t' z')
    (h : ∃ A : Act, (∀ (T : Type) (_ : Nonempty T) (f : T → World), Class w f → wpQuiet P l.toArray (fun w' => ∃ x, w' = f x) (fun a' => a' = A) (l.take n) a) ∧
    (∀ (g g' : Nat) (v : World), Made w.heap.size w v → w.heap.size ≤ g → w.heap.size ≤ g' → g ≠ g' → Has v g t z → Has v g' t' z' →
      wpList P l.toArray Q (l.drop (n + 2)) ((A.put (some d) (.pointer (some ⟨g, 0, none⟩))).put (some d') (.pointer (some ⟨g', 0, none⟩))) v)) : (Code.region id l.toArray true).wp P Q a w := by
  have hl : n + 2 < l.length := by
    simp only [floatB, Bool.and_eq_true, decide_eq_true_eq] at hB
    simpa using hB.1.1.1.2
  obtain ⟨A, h1, h2⟩ := h
  refine region_float (A := A) n 2 N l.length (fun i => if i = n then (t, z) else (t', z')) hm hB (fun h => absurd h (by omega)) (fun o ho => by simp at ho) (.inr (Nat.le_of_lt hl)) hD hN h1 ?_
  rw [ho]
  refine ⟨d, by simpa using ha, fun g => ⟨d', by simpa using ha', fun g' u hu => ?_⟩⟩
  have e1 : upd (upd (fun _ => none) n g) (n + 1) g' n = some g := by unfold upd; simp
  have e2 : upd (upd (fun _ => none) n g) (n + 1) g' (n + 1) = some g' := by unfold upd; simp
  have k1 : w.heap.size ≤ g ∧ Has u g t z := by
    have := hu.2.1 n g e1
    simpa using this
  have k2 : w.heap.size ≤ g' ∧ Has u g' t' z' := by
    have := hu.2.1 (n + 1) g' e2
    simpa using this
  exact h2 g g' u hu.1 k1.1 k2.1 (fun e => by
    have := hu.2.2 n (n + 1) g e1 (by rw [e2, e])
    omega) k1.2 k2.2
theorem extract_pure {o : Oper} {x : Operand} {k : Nat} (h : o.op = .extract x k) : Pure P o := by
  intro a C w v hq w'
  unfold Oper.quietAt at hq
  unfold execOp at hq ⊢
  rw [h] at hq ⊢
  simp only [] at hq ⊢
  generalize a.eval x = y at *
  have key : ∀ u : World, (∃ x, ∀ w', (Instr.extract y k).run P w' = .ok x w') ∨ (∃ h, ∀ w', (Instr.extract y k).run P w' = .halt h w') := by
    intro u
    unfold Instr.extract
    cases y <;> first | exact .inr ⟨_, fun _ => rfl⟩ | skip
    rename_i vs
    cases h : vs[k]? <;> simp [h]
  rcases key w with ⟨x, hx⟩ | ⟨x, hx⟩
  · simp only [Sem.run_bind, hx, Result.andThen_ok, Sem.run_pure, Oper.quietUpon] at hq ⊢
    rw [hq.2]
  · simp [hx, Oper.quietUpon] at hq
end
end Go.Proofs.YtmdhlobonnikcaaDoor.Fx

/- Regions that draw their order and make blocks, by themselves or by calls: the makings come up whenever they like; one walk all the same. -/
namespace Go.Proofs.YtmdhlobonnikcaaDoor.Fx
open Go.ChangeShapes Go.WideShapes Go.ChangeAt Go.RowKit
set_option linter.unusedVariables false

/-- from w on memory has only been made, and these blocks are there, each as 'al' says -/
def ClM (w : World) (al : Nat → World → Nat → Prop) (G : Nat → Option Nat) (v : World) : Prop :=
  Made w.heap.size w v ∧ (∀ i g, G i = some g → w.heap.size ≤ g ∧ g < v.heap.size ∧ al i v g) ∧ (∀ i j g, G i = some g → G j = some g → i = j)
/-- what is said of a block outlasts whatever only makes memory -/
def Lasts (al : Nat → World → Nat → Prop) : Prop := ∀ i u v g, al i u g → g < u.heap.size → Made u.heap.size u v → al i v g
section
variable {w : World} {al : Nat → World → Nat → Prop} {G : Nat → Option Nat}
theorem ClM.step (hst : Lasts al) {u v : World} (h : ClM w al G u) (k : Made u.heap.size u v) : ClM w al G v :=
  ⟨h.1.then_ (k.low h.1.1.size), fun i g e => by
    obtain ⟨h1, h2, h3⟩ := h.2.1 i g e
    exact ⟨h1, Nat.lt_of_lt_of_le h2 k.1.size, hst i u v g h3 h2 k⟩, h.2.2⟩
/-- one more block -/
theorem ClM.next (hst : Lasts al) {u v : World} (h : ClM w al G u) (k : Made u.heap.size u v) {i g : Nat} (h1 : u.heap.size ≤ g) (h2 : g < v.heap.size) (h3 : al i v g) : ClM w al (upd G i g) v := by
  have h' := h.step hst k
  refine ⟨h'.1, fun j b e => ?_, fun j m b ej em => ?_⟩
  · unfold upd at e
    split at e
    · rename_i hj
      subst hj
      cases e
      exact ⟨Nat.le_trans h.1.1.size h1, h2, h3⟩
    · exact h'.2.1 j b e
  · unfold upd at ej em
    split at ej <;> split at em
    · rename_i a b; rw [a, b]
    · cases ej
      have := (h.2.1 m _ em).2.1
      omega
    · cases em
      have := (h.2.1 j _ ej).2.1
      omega
    · exact h.2.2 j m b ej em
end

section
variable {P : Program} {ops : Array Oper} {md : Region.Mode} {w : World} {al : Nat → World → Nat → Prop} {val : Nat → Nat → Nat → Value} {k : Nat} {qs ms : List Nat}

def YM (P : Program) (ops : Array Oper) (w : World) (al : Nat → World → Nat → Prop) (o : Oper) (v : Value) (a : Act) : Prop := ∀ G, (∃ u, ClM w al G u) → YieldsIn P ops (ClM w al G) o v a
theorem YM.put {oi oj : Oper} {v u : Value} {a : Act} (hy : YM P ops w al oi v a) (hsi : ∀ cs b, oi.op ≠ .select cs b) (h : ∀ d, oj.dst = some d → d ∉ oi.looksAt ops) : YM P ops w al oi v (a.put oj.dst u) :=
  fun G hG => (hy G hG).of_same (execOp_put oi hsi a oj.dst u h) (wanted_put oi a oj.dst u h)
theorem YM.unput {oi oj : Oper} {v u : Value} {a : Act} (hy : YM P ops w al oi v (a.put oj.dst u)) (hsi : ∀ cs b, oi.op ≠ .select cs b) (h : ∀ d, oj.dst = some d → d ∉ oi.looksAt ops) : YM P ops w al oi v a :=
  fun G hG => (hy G hG).of_same (execOp_put oi hsi a oj.dst u h).symm (wanted_put oi a oj.dst u h).symm

/-- what a making has come to -/
def MkUpon (P : Program) (w : World) (al : Nat → World → Nat → Prop) (val : Nat → Nat → Nat → Value) (i : Nat) (G : Nat → Option Nat) : Result Next → Prop
  | .ok (.value x) u' => ∃ g e, x = val i g e ∧ ClM w al (upd G i g) u'
  | .ok (.enter f args) u' => Calls P f args u' fun z u'' => ∃ g e, z = .returned (val i g e) ∧ ClM w al (upd G i g) u''
  | _ => False
/-- a making, in state a -/
structure Mk (P : Program) (w : World) (al : Nat → World → Nat → Prop) (val : Nat → Nat → Nat → Value) (i : Nat) (o : Oper) (d : Tmp) (a : Act) : Prop where
  dst : o.dst = some d
  guard : o.guard = none
  runs : ∀ G u, ClM w al G u → MkUpon P w al val i G ((execOp a.eval o).run P u)
theorem Mk.put {i : Nat} {oi oj : Oper} {d : Tmp} {u : Value} {a : Act} (h : Mk P w al val i oi d a) (hsi : ∀ cs b, oi.op ≠ .select cs b) (hd : ∀ x, oj.dst = some x → x ∉ oi.looksAt ops) : Mk P w al val i oi d (a.put oj.dst u) :=
  ⟨h.dst, h.guard, fun G x hx => by rw [execOp_put (ops := ops) oi hsi a oj.dst u hd]; exact h.runs G x hx⟩
theorem Mk.unput {i : Nat} {oi oj : Oper} {d : Tmp} {u : Value} {a : Act} (h : Mk P w al val i oi d (a.put oj.dst u)) (hsi : ∀ cs b, oi.op ≠ .select cs b) (hd : ∀ x, oj.dst = some x → x ∉ oi.looksAt ops) : Mk P w al val i oi d a :=
  ⟨h.dst, h.guard, fun G x hx => by rw [← execOp_put (ops := ops) oi hsi a oj.dst u hd]; exact h.runs G x hx⟩

def FM (P : Program) (md : Region.Mode) (ops : Array Oper) (w : World) (al : Nat → World → Nat → Prop) (val : Nat → Nat → Nat → Value) (qs ms : List Nat) (L : (Nat → Option Nat) → Array Bool → Act → Prop) : Nat → (Nat → Option Nat) → Array Bool → Act → Prop
  | 0, G, got, a => L G got a
  | f + 1, G, got, a => Region.ready md ops got ≠ [] ∧ ∀ i ∈ Region.ready md ops got,
      (i ∈ qs ∧ ∃ o v, ops[i]? = some o ∧ YM P ops w al o v a ∧ FM P md ops w al val qs ms L f G (got.setIfInBounds i true) (a.put o.dst v)) ∨
      (i ∈ ms ∧ ∃ o d, ops[i]? = some o ∧ Mk P w al val i o d a ∧ ∀ g e, FM P md ops w al val qs ms L f (upd G i g) (got.setIfInBounds i true) (a.put (some d) (val i g e)))

theorem FM_any {g : Nat} {L : (Nat → Option Nat) → Array Bool → Act → Prop} {Q : Exit → Act → World → Prop}
    (hL : ∀ G got a u, ClM w al G u → L G got a → wpAny P md ops Q g got a u) :
    ∀ (f : Nat) (G : Nat → Option Nat) (got : Array Bool) (a : Act) (u : World), ClM w al G u → FM P md ops w al val qs ms L f G got a → wpAny P md ops Q (f + g) got a u
  | 0, G, got, a, u, hu, h => by rw [Nat.zero_add]; exact hL _ _ _ _ hu h
  | f + 1, G, got, a, u, hu, h => by
    rw [show f + 1 + g = (f + g) + 1 by omega]
    refine ⟨fun h0 => absurd h0 h.1, fun i hi => ?_⟩
    rcases h.2 i hi with ⟨_, o, v, ho, hy, hf⟩ | ⟨_, o, d, ho, ha, hf⟩
    · refine wpOp_of_qOp (C := ClM w al G) (K := fun a' => a' = a.put o.dst v) hu (fun a' u' hu' e => ?_) ((hy G ⟨u, hu⟩).qOp ho rfl)
      rw [e]
      exact FM_any hL f _ _ _ _ hu' hf
    · unfold wpOp
      simp only [ho]
      have hw : Region.wanted o (yielded ops a.tmps) = true := by unfold Region.wanted; rw [ha.guard]
      rw [if_pos hw]
      left
      have hr := ha.runs G u hu
      unfold Oper.wp
      generalize (execOp a.eval o).run P u = r at hr
      cases r with
      | halt x w' => exact hr.elim
      | ok x w' =>
        cases x with
        | value x =>
          obtain ⟨b, e, hx, hc⟩ := hr
          rw [Oper.upon_value, ha.dst, hx]
          exact FM_any hL f _ _ _ _ hc (hf b e)
        | enter fn args =>
          rw [Oper.upon_enter]
          refine Calls.mono hr fun z u'' ⟨b, e, hz, hc⟩ => ?_
          subst hz
          simp only []
          rw [ha.dst]
          exact FM_any hL f _ _ _ _ hc (hf b e)
        | _ => exact hr.elim

theorem FM_first {i : Nat} {oi : Oper} {v : Value} {L : (Nat → Option Nat) → Array Bool → Act → Prop} (hi : ops[i]? = some oi) (hsel : ∀ (j : Nat) (o : Oper) cs b, ops[j]? = some o → o.op ≠ .select cs b)
    (hs : waitB md ops k ops.size = true) (hc : Region.chainB md ops k = true) (hn : k < ops.size) (hiq : i ∈ qs) (hin : i < k) (hlt : ∀ j, j ∈ qs ∨ j ∈ ms → j < k)
    (hdone : ∀ G got a, L G got a → ∀ j ∈ Region.ready md ops got, k ≤ j) :
    ∀ (f : Nat) (G : Nat → Option Nat) (got : Array Bool) (a : Act), HeadInv md ops k got →
      (∀ j oj, ops[j]? = some oj → j ≠ i → got.getD j true = false → (∀ e ∈ oj.after, Region.binds md e = true → e.on ≠ i) → oi.apart ops oj = true) →
      i ∈ Region.ready md ops got → YM P ops w al oi v a →
      FM P md ops w al val qs ms L f G (got.setIfInBounds i true) (a.put oi.dst v) → FM P md ops w al val qs ms L (f + 1) G got a
  | f, G, got, a, inv, hfree, hr, hy, H => by
    have hun := (mem_ready.1 hr).1
    refine ⟨fun h => (by rw [h] at hr; cases hr), fun j hj => ?_⟩
    have hjn : j < k := by
      refine Nat.lt_of_le_of_ne (ready_le hc inv hj) fun e => ?_
      have := ready_last (i := i) hs inv (by rw [← e]; exact hj) hin hun
      omega
    by_cases hji : j = i
    · subst hji; exact .inl ⟨hiq, oi, v, hi, hy, H⟩
    · have hrj := ready_mono hj hji
      obtain ⟨hjun, oj, hoj, hall⟩ := mem_ready.1 hj
      have hnot : ∀ e ∈ oj.after, Region.binds md e = true → e.on ≠ i := fun e he hb heq => by
        have h1 := hall e he hb
        rw [heq, getD_both hun] at h1
        cases h1
      obtain ⟨p1, p2, p3⟩ := Oper.apart_spec (hfree j oj hoj hji hjun hnot)
      have hfree' : ∀ m ok, ops[m]? = some ok → m ≠ i → (got.setIfInBounds j true).getD m true = false → (∀ e ∈ ok.after, Region.binds md e = true → e.on ≠ i) → oi.apart ops ok = true := fun m ok hk hki hun' hno => by
        refine hfree m ok hk hki ?_ hno
        by_cases hjk : j = m
        · subst hjk; exact hjun
        · rw [getD_set_ne true hjk] at hun'; exact hun'
      match f, H with
      | 0, H => have := hdone _ _ _ H j hrj; omega
      | f + 1, H =>
        rcases H.2 j hrj with ⟨hjq, o, u, ho, hyj, hf⟩ | ⟨hjm, o, d, ho, ha, hf⟩
        · have e : o = oj := Option.some.inj (ho.symm.trans hoj)
          subst e
          refine .inl ⟨hjq, o, u, ho, hyj.unput (fun cs b => hsel j o cs b ho) p1, ?_⟩
          refine FM_first hi hsel hs hc hn hiq hin hlt hdone f G _ _ (inv.set hj hjn) hfree' (ready_mono hr (Ne.symm hji)) (hy.put (fun cs b => hsel i oi cs b hi) p3) ?_
          rw [Array.setIfInBounds_comm _ _ hji, ← Act.put_comm a v u p2]
          exact hf
        · have e : o = oj := Option.some.inj (ho.symm.trans hoj)
          subst e
          refine .inr ⟨hjm, o, d, ho, ha.unput (fun cs b => hsel j o cs b ho) p1, fun g x => ?_⟩
          have hyi : YM P ops w al oi v (a.put o.dst (val j g x)) := hy.put (fun cs b => hsel i oi cs b hi) p3
          have hg := hf g x
          rw [← ha.dst] at hg ⊢
          refine FM_first hi hsel hs hc hn hiq hin hlt hdone f _ _ _ (inv.set hj hjn) hfree' (ready_mono hr (Ne.symm hji)) hyi ?_
          rw [Array.setIfInBounds_comm _ _ hji, ← Act.put_comm a v _ p2]
          exact hg

theorem FM_firstM {i : Nat} {oi : Oper} {di : Tmp} {L : (Nat → Option Nat) → Array Bool → Act → Prop} (hi : ops[i]? = some oi) (hsel : ∀ (j : Nat) (o : Oper) cs b, ops[j]? = some o → o.op ≠ .select cs b)
    (hs : waitB md ops k ops.size = true) (hc : Region.chainB md ops k = true) (hn : k < ops.size) (him : i ∈ ms) (hin : i < k)
    (hdone : ∀ G got a, L G got a → ∀ j ∈ Region.ready md ops got, k ≤ j) :
    ∀ (f : Nat) (G : Nat → Option Nat) (got : Array Bool) (a : Act), HeadInv md ops k got → (∀ j, j ∈ qs → got.getD j true = true) →
      (∀ j oj, ops[j]? = some oj → j ≠ i → got.getD j true = false → (∀ e ∈ oj.after, Region.binds md e = true → e.on ≠ i) → oi.apart ops oj = true) →
      i ∈ Region.ready md ops got → Mk P w al val i oi di a →
      (∀ g e, FM P md ops w al val qs ms L f (upd G i g) (got.setIfInBounds i true) (a.put (some di) (val i g e))) → FM P md ops w al val qs ms L (f + 1) G got a
  | f, G, got, a, inv, hall0, hfree, hr, ha, H => by
    have hun := (mem_ready.1 hr).1
    refine ⟨fun h => (by rw [h] at hr; cases hr), fun j hj => ?_⟩
    have hjn : j < k := by
      refine Nat.lt_of_le_of_ne (ready_le hc inv hj) fun e => ?_
      have := ready_last (i := i) hs inv (by rw [← e]; exact hj) hin hun
      omega
    obtain ⟨hjun, oj, hoj, hall⟩ := mem_ready.1 hj
    by_cases hji : j = i
    · subst hji; exact .inr ⟨him, oi, di, hi, ha, H⟩
    · have hrj := ready_mono hj hji
      match f, H with
      | 0, H => have := hdone _ _ _ (H 0 0) j hrj; omega
      | f + 1, H =>
        have hnot : ∀ e ∈ oj.after, Region.binds md e = true → e.on ≠ i := fun e he hb heq => by
          have h1 := hall e he hb
          rw [heq, getD_both hun] at h1
          cases h1
        obtain ⟨p1, p2, p3⟩ := Oper.apart_spec (hfree j oj hoj hji hjun hnot)
        have hfree' : ∀ m ok, ops[m]? = some ok → m ≠ i → (got.setIfInBounds j true).getD m true = false → (∀ e ∈ ok.after, Region.binds md e = true → e.on ≠ i) → oi.apart ops ok = true := fun m ok hk hki hun' hno => by
          refine hfree m ok hk hki ?_ hno
          by_cases hjk : j = m
          · subst hjk; exact hjun
          · rw [getD_set_ne true hjk] at hun'; exact hun'
        have key : ∀ g e, ∃ d, j ∈ ms ∧ Mk P w al val j oj d (a.put (some di) (val i g e)) ∧ ∀ g' e', FM P md ops w al val qs ms L f (upd (upd G i g) j g') ((got.setIfInBounds i true).setIfInBounds j true) ((a.put (some di) (val i g e)).put (some d) (val j g' e')) := fun g e => by
          rcases (H g e).2 j hrj with ⟨hjq, _⟩ | ⟨h1, o, d, ho, had, hf⟩
          · rw [hall0 j hjq] at hjun; cases hjun
          · have e : o = oj := Option.some.inj (ho.symm.trans hoj)
            subst e
            exact ⟨d, h1, had, hf⟩
        obtain ⟨d, hjm, had, _⟩ := key 0 0
        have had0 : Mk P w al val j oj d a := by
          rw [← ha.dst] at had
          exact had.unput (fun cs b => hsel j oj cs b hoj) p1
        refine .inr ⟨hjm, oj, d, hoj, had0, fun g' e' => ?_⟩
        have ha' : Mk P w al val i oi di (a.put (some d) (val j g' e')) := by
          have := ha.put (u := val j g' e') (fun cs b => hsel i oi cs b hi) p3
          rw [had0.dst] at this
          exact this
        refine FM_firstM hi hsel hs hc hn him hin hdone f _ _ _ (inv.set hj hjn) (fun m hk => by
          have hjk : j ≠ m := fun e => by rw [e, hall0 m hk] at hjun; cases hjun
          rw [getD_set_ne true hjk]; exact hall0 m hk) hfree' (ready_mono hr (Ne.symm hji)) ha' fun g e => ?_
        obtain ⟨d', _, had', hf⟩ := key g e
        have ed : d' = d := Option.some.inj (had'.dst.symm.trans had0.dst)
        subst ed
        rw [Array.setIfInBounds_comm _ _ hji, upd_comm G hji]
        have hp : ∀ x, some di = some x → some d' ≠ some x := fun x hx => by rw [← had0.dst]; exact p2 x (by rw [ha.dst]; exact hx)
        rw [← Act.put_comm a _ _ hp]
        exact hf g' e'

/-- an order of the head: each may come up then, and is apart from what need not wait for it -/
def ordB (md : Region.Mode) (ops : Array Oper) (g k : Nat) : List Nat → Array Bool → Bool
  | [], got => Region.seqB md ops g k got
  | i :: l, got => (Region.ready md ops got).contains i && Region.free md ops got i && ordB md ops g k l (got.setIfInBounds i true)
def ChM (P : Program) (ops : Array Oper) (w : World) (al : Nat → World → Nat → Prop) (A : Act) : List Nat → Act → Prop
  | [], a => a = A
  | i :: l, a => ∃ o v, ops[i]? = some o ∧ YM P ops w al o v a ∧ ChM P ops w al A l (a.put o.dst v)
def AhM (P : Program) (ops : Array Oper) (w : World) (al : Nat → World → Nat → Prop) (val : Nat → Nat → Nat → Value) (Lq : (Nat → Option Nat) → Act → Prop) : List Nat → (Nat → Option Nat) → Act → Prop
  | [], G, a => Lq G a
  | i :: l, G, a => ∃ o d, ops[i]? = some o ∧ Mk P w al val i o d a ∧ ∀ g e, AhM P ops w al val Lq l (upd G i g) (a.put (some d) (val i g e))

theorem set_listed {got : Array Bool} {i j : Nat} (h : got.getD j true = true) : (got.setIfInBounds i true).getD j true = true := by
  by_cases e : i = j
  · subst e
    by_cases hk : i < got.size
    · simp [hk]
    · simp [hk]
  · rw [getD_set_ne true e]; exact h

theorem FM_lexM {g : Nat} {Lq : (Nat → Option Nat) → Act → Prop} (hsel : Region.noSelect ops = true) (hs : waitB md ops k ops.size = true) (hc : Region.chainB md ops k = true) (hn : k < ops.size) (hlt : ∀ j, j ∈ qs ∨ j ∈ ms → j < k) :
    ∀ (l : List Nat) (G : Nat → Option Nat) (got : Array Bool) (a : Act), (∀ i, i ∈ l → i ∈ ms) → HeadInv md ops k got → (∀ j, j ∈ qs → got.getD j true = true) →
    ordB md ops g k l got = true → AhM P ops w al val Lq l G a →
    FM P md ops w al val qs ms (fun G' got' a' => Region.seqB md ops g k got' = true ∧ Lq G' a') l.length G got a
  | [], G, got, a, _, _, _, hB, h => ⟨hB, h⟩
  | i :: l, G, got, a, hl, inv, hall, hB, h => by
    simp only [ordB, Bool.and_eq_true] at hB
    obtain ⟨⟨hr, hf⟩, hB'⟩ := hB
    have him := hl i (List.mem_cons_self ..)
    have hin := hlt i (.inr him)
    have hr' : i ∈ Region.ready md ops got := by simpa using hr
    obtain ⟨o, d, h0, ha, hh⟩ := h
    refine FM_firstM h0 (Region.noSelect_spec hsel) hs hc hn him hin (fun G' got' a' hL => seqB_ready hL.1) l.length G got a inv hall (Region.free_spec h0 hf) hr' ha fun b e => ?_
    exact FM_lexM hsel hs hc hn hlt l _ _ _ (fun j hj => hl j (List.mem_cons_of_mem _ hj)) (inv.set hr' hin) (fun j hj => set_listed (hall j hj)) hB' (hh b e)

theorem FM_lex {g : Nat} {Lq : (Nat → Option Nat) → Act → Prop} {A : Act} (hsel : Region.noSelect ops = true)
    (hs : waitB md ops k ops.size = true) (hc : Region.chainB md ops k = true) (hn : k < ops.size) (hlt : ∀ j, j ∈ qs ∨ j ∈ ms → j < k) :
    ∀ (l : List Nat) (G : Nat → Option Nat) (got : Array Bool) (a : Act), (∀ i, i ∈ l → i ∈ qs) → HeadInv md ops k got → (∀ j, j ∈ qs → j ∈ l ∨ got.getD j true = true) →
    ordB md ops g k (l ++ ms) got = true → ChM P ops w al A l a → AhM P ops w al val Lq ms G A →
    FM P md ops w al val qs ms (fun G' got' a' => Region.seqB md ops g k got' = true ∧ Lq G' a') (l.length + ms.length) G got a
  | [], G, got, a, _, inv, hall, hB, h, hA => by
    simp only [List.length_nil, Nat.zero_add, List.nil_append] at hB ⊢
    rw [show a = A from h]
    exact FM_lexM hsel hs hc hn hlt ms G got A (fun _ h => h) inv (fun j hj => (hall j hj).resolve_left (by simp)) hB hA
  | i :: l, G, got, a, hl, inv, hall, hB, h, hA => by
    rw [show (i :: l).length + ms.length = (l.length + ms.length) + 1 by simp only [List.length_cons]; omega]
    simp only [List.cons_append, ordB, Bool.and_eq_true] at hB
    obtain ⟨⟨hr, hf⟩, hB'⟩ := hB
    have hiq := hl i (List.mem_cons_self ..)
    have hin := hlt i (.inl hiq)
    have hr' : i ∈ Region.ready md ops got := by simpa using hr
    obtain ⟨o, v, h0, hy, hK⟩ := h
    refine FM_first h0 (Region.noSelect_spec hsel) hs hc hn hiq hin hlt (fun G' got' a' hL => seqB_ready hL.1) (l.length + ms.length) G got a inv (Region.free_spec h0 hf) hr' hy ?_
    refine FM_lex hsel hs hc hn hlt l G _ _ (fun j hj => hl j (List.mem_cons_of_mem _ hj)) (inv.set hr' hin) (fun j hj => ?_) hB' hK hA
    rcases hall j hj with h | h
    · rcases List.mem_cons.1 h with h | h
      · subst h
        right
        have hsz : j < got.size := by rw [inv.size]; omega
        simp [hsz]
      · exact .inl h
    · exact .inr (set_listed h)

theorem chain_ofM {A : Act} {N : Nat} (hst : Lasts al) : ∀ (l : List Nat) (lo : List Oper) (a : Act), l.map (fun i => ops[i]?) = lo.map some → a.tmps.size = N → dstB N lo = true → (∀ G, (∃ u, ClM w al G u) → wpQuiet P ops (ClM w al G) (fun a' => a' = A) lo a) → ChM P ops w al A l a
  | [], [], a, _, _, _, h => h (fun _ => none) ⟨w, Made.rfl_ _ _, fun i g e => (by cases e), fun i j g e => (by cases e)⟩
  | [], _ :: _, a, hm, _, _, h => by simp at hm
  | _ :: _, [], a, hm, _, _, h => by simp at hm
  | i :: l, o :: lo, a, hm, hN, hD, h => by
    simp only [List.map_cons, List.cons.injEq] at hm
    have h0 : ∃ u, ClM w al (fun _ => none) u := ⟨w, Made.rfl_ _ _, fun i g e => (by cases e), fun i j g e => (by cases e)⟩
    unfold dstB at hD
    simp only [Bool.and_eq_true] at hD
    obtain ⟨hd, hD'⟩ := hD
    cases ho : o.dst with
    | none => rw [ho] at hd; cases hd
    | some d =>
      rw [ho] at hd
      simp only [Bool.and_eq_true, decide_eq_true_eq, List.all_eq_true, bne_iff_ne] at hd
      obtain ⟨v, _, hv⟩ := quiet_cons (h _ h0)
      have slot : ∀ G, (∃ u, ClM w al G u) → ∀ x, wpQuiet P ops (ClM w al G) (fun a' => a' = A) lo (a.put o.dst x) → A.tmps[d]? = some x := fun G hG x hx => by
        rw [last_slot lo _ hx hd.2, ho]
        exact put_get a d x (by rw [hN]; exact hd.1)
      have all : ∀ G, (∃ u, ClM w al G u) → YieldsIn P ops (ClM w al G) o v a ∧ wpQuiet P ops (ClM w al G) (fun a' => a' = A) lo (a.put o.dst v) := fun G hG => by
        obtain ⟨x, hy, hx⟩ := quiet_cons (h G hG)
        have e : x = v := Option.some.inj ((slot G hG x hx).symm.trans (slot _ h0 v hv))
        rw [e] at hy hx
        exact ⟨hy, hx⟩
      exact ⟨o, v, hm.1, fun G hG => (all G hG).1, chain_ofM hst l lo _ hm.2 ((put_size ..).trans hN) hD' fun G hG => (all G hG).2⟩
end

section
variable {P : Program}
def makesB (md : Region.Mode) (ops : Array Oper) (k : Nat) (qs ms : List Nat) : Bool :=
  Region.noSelect ops && decide (k < ops.size) && waitB md ops k ops.size && Region.chainB md ops k && (qs ++ ms).all (fun i => decide (i < k)) && decide (qs.length + ms.length = k) && ordB md ops (ops.size - k) k (qs ++ ms) (Array.replicate ops.size false)
/-- qs: quiet, ms: they make; all the first k; then the others, in one order alone -/
theorem region_makes {id : Nat} {Q : Exit → Act → World → Prop} {a : Act} {w : World} {l : List Oper} (k N : Nat) (qs ms : List Nat) (al : Nat → World → Nat → Prop) (val : Nat → Nat → Nat → Value) (hm : P.follows .mixedOrders = true) (hst : Lasts al)
    (hB : makesB .any l.toArray k qs ms = true) (hq : qs.map (fun i => l.toArray[i]?) = (qs.filterMap fun i => l[i]?).map some) (hD : dstB N (qs.filterMap fun i => l[i]?) = true) (hN : a.tmps.size = N)
    (h : ∃ A : Act, (∀ (T : Type) (_ : Nonempty T) (f : T → World), Class w f → wpQuiet P l.toArray (fun w' => ∃ x, w' = f x) (fun a' => a' = A) (qs.filterMap fun i => l[i]?) a) ∧
      AhM P l.toArray w al val (fun G a' => ∀ u, ClM w al G u → wpList P l.toArray Q (l.drop k) a' u) ms (fun _ => none) A) : (Code.region id l.toArray true).wp P Q a w := by
  obtain ⟨A, h1, h2⟩ := h
  simp only [makesB, Bool.and_eq_true, decide_eq_true_eq, List.all_eq_true, List.mem_append] at hB
  obtain ⟨⟨⟨⟨⟨⟨hsel, hn⟩, hs⟩, hc⟩, hlt⟩, hlen⟩, hlex⟩ := hB
  have hn' : k < l.length := by simpa using hn
  have hdl : (l.drop k).length = l.toArray.size - k := by simp
  have inv0 : HeadInv .any l.toArray k (Array.replicate l.toArray.size false) :=
    ⟨by simp, fun j oj _ hl => (by rw [getD_replicate_false] at hl; cases hl), fun t _ ht => getD_in (by simpa using ht) (getD_replicate_false _ _)⟩
  have hch : ChM P l.toArray w al A qs a := by
    refine chain_ofM (N := N) hst qs _ a hq hN hD fun G hG => ?_
    obtain ⟨u, hu⟩ := hG
    have := h1 {v // ClM w al G v} ⟨⟨u, hu⟩⟩ Subtype.val ⟨fun x => x.2.1, fun x v hv => ⟨⟨v, x.2.step hst hv⟩, rfl⟩⟩
    have e : (fun w' => ∃ x : {v // ClM w al G v}, w' = x.1) = ClM w al G := by
      funext w'
      exact propext ⟨fun ⟨x, hx⟩ => hx ▸ x.2, fun h => ⟨⟨w', h⟩, rfl⟩⟩
    rw [e] at this
    exact this
  have hL : ∀ G got a' u, ClM w al G u → (Region.seqB .any l.toArray (l.toArray.size - k) k got = true ∧ ∀ u, ClM w al G u → wpList P l.toArray Q (l.drop k) a' u) → wpAny P .any l.toArray Q (l.toArray.size - k) got a' u := fun G got a' u hu hL => by
    have := wpAny_of_seq (md := .any) (Q' := Q) (l.drop k) k got a' u (fun j => by simp [List.getElem?_drop]) (by rw [hdl]; exact hL.1) (hL.2 u hu)
    rwa [hdl] at this
  have H := FM_lex (md := .any) (g := l.toArray.size - k) (P := P) (w := w) (al := al) (val := val) (Lq := fun G a' => ∀ u, ClM w al G u → wpList P l.toArray Q (l.drop k) a' u) (A := A) (qs := qs) (ms := ms)
    hsel hs hc hn hlt qs (fun _ => none) _ a (fun _ h => h) inv0 (fun j hj => .inl hj) hlex hch h2
  refine wp_region_any hm ?_
  have c0 : ClM w al (fun _ => none) { w with drawn := w.drawn + 1 } := ⟨made_draw w, fun i g e => (by cases e), fun i j g e => (by cases e)⟩
  have := FM_any hL _ _ _ _ _ c0 H
  rw [hlen, show k + (l.toArray.size - k) = l.toArray.size by omega] at this
  exact this
end
end Go.Proofs.YtmdhlobonnikcaaDoor.Fx

/- Rows that a call makes: append leaves every mark as it was; rows of pairs of numbers. -/
namespace Go.Proofs.YtmdhlobonnikcaaDoor.Fx
open Go.ChangeShapes Go.WideShapes Go.ChangeAt Go.RowKit
set_option linter.unusedVariables false

theorem frozen_setRow (w : World) (g : Nat) (cs : Array Value) (a : Addr) : (w.setRow g cs).frozen? a = w.frozen? a := by
  by_cases h : g = a.block
  · subst h
    unfold World.frozen? World.setRow
    simp only [Array.getElem?_modify, if_true]
    cases w.heap[a.block]? with
    | none => rfl
    | some o => cases o <;> rfl
  · exact World.frozen?_of_block (setRow_other w g a.block cs (fun e => h e.symm))

section
variable {P : Program} (w : World)
/-- append to a row of the call's own leaves every mark as it was -/
theorem append_frozen (base : Nat) (t ty e : TypeId) (i : TypeInfo) (z : Value) (size bytes : Nat) (ht : P.underlying t = some (.slice e)) (hi : P.info? e = some i) (hz : i.zero = some z)
    (hsize : i.size = size) (hby : i.bytes = bytes) (hsz : 0 < size)
    (v : Value) (n : Nat) (xs : List Value) (hown : w.ownsRow base e size v n xs)
    (a : Addr) (m c : Nat) (news : List Value) (hl : news.length = m * size) (hnews : ∀ j u, news[j]? = some u → w.cell? (a.add j) = some u) (h1 : ∀ u ∈ news, u.oneCell' = true)
    (h63 : n + m ≤ maxLen) (hbytes : (n + m) * bytes ≤ 140737488355328) (hm : 0 < m)
    {v' : Value} {w' : World} (hrun : (Builtin.append_ #[t, t] ty #[v, .slice (some a) m c]).run P w = .ok v' w') : ∀ x, w'.frozen? x = w.frozen? x := by
  subst hsize
  subst hby
  unfold maxLen at h63
  rcases hown.2 with ⟨rfl, rfl⟩ | ⟨g, cap, cur, rfl, _, hg, hnc, _, hcs, _⟩
  · have hr := run_append_nil (P := P) w t ty e i z ht hi hz a m c news hl hnews hm (by omega) (by rw [Nat.zero_add] at hbytes; omega)
    rw [hr] at hrun
    injection hrun with _ h2
    subst h2
    intro x
    exact (frozen?_alloc_cells _ _ _ _).trans (World.frozen?_drew ..)
  · by_cases hroom : n + m ≤ cap
    · have hfit : n * i.size + news.length ≤ cur.size := by rw [hl, hcs, ← Nat.add_mul]; exact Nat.mul_le_mul_right _ hroom
      have hr := run_append_room (P := P) w t ty e i ht hi g n cap cur hg a m c news hl hnews h1 hroom hfit
      rw [hr] at hrun
      injection hrun with _ h2
      subst h2
      exact frozen_setRow _ _ _
    · have hr := run_append_grow (P := P) w t ty e i z ht hi hz ⟨g, 0, none⟩ n cap xs hown.1 (hown.cells (g := g) rfl) a m c news hl hnews (by omega) (by omega) (growslice_fits (by omega) hbytes)
      rw [hr] at hrun
      injection hrun with _ h2
      subst h2
      intro x
      exact (frozen?_alloc_cells _ _ _ _).trans (World.frozen?_drew ..)

theorem wpList_append_made {ops : Array Oper} {rest : List Oper} {o : Oper} {a : Act} {Q : Exit → Act → World → Prop} (hgd : o.guard = none) (s x : Operand) (t : TypeId)
    (ho : o.op = .call { callee := .builtin .append, args := #[s, x], argTypes := #[t, t] })
    (base : Nat) (e : TypeId) (i : TypeInfo) (z : Value) (size bytes : Nat) (ht : P.underlying t = some (.slice e)) (hi : P.info? e = some i) (hz : i.zero = some z)
    (hsize : i.size = size) (hby : i.bytes = bytes) (hzs : z.cells.size = size) (hsz : 0 < size)
    (v : Value) (n : Nat) (xs : List Value) (hs : a.eval s = v) (hown : w.ownsRow base e size v n xs)
    (ad : Addr) (m c : Nat) (news : List Value) (hx : a.eval x = .slice (some ad) m c) (hl : news.length = m * size) (hnews : ∀ j u, news[j]? = some u → w.cell? (ad.add j) = some u) (h1 : ∀ u ∈ news, u.oneCell' = true)
    (h63 : n + m ≤ maxLen) (hbytes : (n + m) * bytes ≤ 140737488355328) (hbase : base ≤ w.heap.size) (hm : 0 < m)
    (h : ∀ v' w', w'.ownsRow base e size v' (n + m) (xs ++ news) → w.grownBy w' v.ownBlock → (∀ p, w'.frozen? p = w.frozen? p) → wpList P ops Q rest (a.put o.dst v') w') : wpList P ops Q (o :: rest) a w := by
  refine wpList_plain hgd fun _ hK => ?_
  obtain ⟨v', w', hr, h2, h3, _⟩ := run_append_own (P := P) w base t o.type e i z size bytes ht hi hz hsize hby hzs hsz v n xs hown ad m c news hl hnews h1 h63 hbytes hbase
  have hf := append_frozen (P := P) w base t o.type e i z size bytes ht hi hz hsize hby hsz v n xs hown ad m c news hl hnews h1 h63 hbytes hm hr
  unfold Oper.wp execOp
  simp only [ho, resolve, invoke, builtin, Sem.run_bind, Sem.run_pure, Result.andThen_ok, List.map_toArray, List.map_cons, List.map_nil, hs, hx, hr]
  exact hK _ _ (h v' w' h2 h3 hf)
end

theorem Made.app {B : Nat} {a w w' : World} {row : Option Nat} (h : Made B a w) (hg : w.grownBy w' row) (hf : ∀ p, w'.frozen? p = w.frozen? p) (hB : B ≤ w.heap.size) (hr : ∀ k, row = some k → B ≤ k) : Made B a w' :=
  ⟨h.1.grown hg hB hr, fun x => (hf x).trans (h.2 x)⟩

theorem Made.at_ {B : Nat} {w v : World} (h : Made B w v) {p : Addr} {x : Value} (hp : p.block < B) (k : w.cell? p = some x) : v.cell? p = some x := (h.1.cell hp).trans k

theorem cell_more {w : World} {c : Array Value} {t : TypeId} {p : Addr} {x : Value} (k : w.cell? p = some x) : (w.alloc (.cells c t)).cell? p = some x := ((Made.rfl_ w.heap.size w).cells (Nat.le_refl _) c t).reads k
theorem cell_else {w : World} {p q : Addr} {x u : Value} (h : p.block ≠ q.block) (k : w.cell? p = some x) : (w.setCell q u).cell? p = some x := (World.cell?_of_block (Below.heap_setCell w q u p.block h)).trans k

/-! ### rows of pairs of numbers -/
/-- what lies in cell j of a row of pairs -/
def cellF (f : Nat → Int × Int) (j : Nat) : Value := if j % 2 = 0 then .int .i64 (f (j / 2)).1 else .int .i64 (f (j / 2)).2
def flat (f : Nat → Int × Int) (n : Nat) : List Value := (List.range (n * 2)).map (cellF f)
theorem flat_len (f : Nat → Int × Int) (n : Nat) : (flat f n).length = n * 2 := by simp [flat]
theorem flat_at (f : Nat → Int × Int) (n j : Nat) (h : j < n * 2) : (flat f n)[j]? = some (cellF f j) := by simp [flat, h]
theorem flat_zero (f : Nat → Int × Int) : flat f 0 = [] := rfl
theorem cellF_x (f : Nat → Int × Int) (i : Nat) : cellF f (i * 2) = .int .i64 (f i).1 := by
  unfold cellF; rw [if_pos (by omega), show i * 2 / 2 = i by omega]
theorem cellF_y (f : Nat → Int × Int) (i : Nat) : cellF f (i * 2 + 1) = .int .i64 (f i).2 := by
  unfold cellF; rw [if_neg (by omega), show (i * 2 + 1) / 2 = i by omega]
theorem flat_next (f : Nat → Int × Int) (n : Nat) {x y : Int} (hx : (f n).1 = x) (hy : (f n).2 = y) : flat f n ++ [.int .i64 x, .int .i64 y] = flat f (n + 1) := by
  have e : (n + 1) * 2 = n * 2 + 1 + 1 := by omega
  unfold flat
  rw [e, List.range_succ, List.range_succ]
  simp only [List.map_append, List.map_cons, List.map_nil, cellF_x, cellF_y, hx, hy, List.append_assoc, List.cons_append, List.nil_append]
theorem flat_one (f : Nat → Int × Int) (n : Nat) : ∀ u ∈ flat f n, u.oneCell' = true := by
  intro u hu
  obtain ⟨j, _, rfl⟩ := List.mem_map.1 hu
  unfold cellF; split <;> rfl

/-- the pairs lie there -/
def Pts (w : World) (b off n : Nat) (f : Nat → Int × Int) : Prop := ∀ i, i < n → w.cell? ⟨b, off + i * 2, none⟩ = some (.int .i64 (f i).1) ∧ w.cell? ⟨b, off + i * 2 + 1, none⟩ = some (.int .i64 (f i).2)
theorem Pts.kept {w v : World} {b off n : Nat} {f : Nat → Int × Int} (h : Pts w b off n f) (k : Made w.heap.size w v) : Pts v b off n f := fun i hi => ⟨k.reads (h i hi).1, k.reads (h i hi).2⟩
theorem Pts.stays {w v : World} {b off n B : Nat} {f : Nat → Int × Int} (h : Pts w b off n f) (k : Made B w v) (hb : b < B) : Pts v b off n f := fun i hi => ⟨(k.1.cell hb).trans (h i hi).1, (k.1.cell hb).trans (h i hi).2⟩
theorem Pts.here {w : World} {b off n : Nat} {f : Nat → Int × Int} (h : Pts w b off n f) (hn : 0 < n) : b < w.heap.size := World.block_lt_of_cell? (a := ⟨b, off + 0 * 2, none⟩) w (h 0 hn).1
theorem Pts.flat_at {w : World} {b off n : Nat} {f : Nat → Int × Int} (h : Pts w b off n f) : ∀ j u, (flat f n)[j]? = some u → w.cell? ((⟨b, off, none⟩ : Addr).add j) = some u := by
  intro j u hu
  have hj : j < n * 2 := by rw [← flat_len f n]; exact (List.getElem?_eq_some_iff.1 hu).1
  rw [Fx.flat_at f n j hj] at hu
  cases hu
  rw [Addr.add_lit]
  have hi := h (j / 2) (by omega)
  rcases (show j % 2 = 0 ∨ j % 2 = 1 by omega) with e | e
  · unfold cellF; rw [if_pos e, ← hi.1]; congr 2; omega
  · unfold cellF; rw [if_neg (by omega), ← hi.2]; congr 2; omega

/-- block g begins with these pairs -/
def Row (w : World) (g : Nat) (t : TypeId) (n : Nat) (f : Nat → Int × Int) : Prop := ∃ A, Has w g t A ∧ n * 2 ≤ A.size ∧ ∀ j, j < n * 2 → A[j]? = some (cellF f j)
section
variable {w v : World} {g n B : Nat} {t : TypeId} {f f' : Nat → Int × Int}
theorem Row.pts (h : Row w g t n f) : Pts w g 0 n f := by
  obtain ⟨A, hA, _, hc⟩ := h
  intro i hi
  rw [Nat.zero_add, hA.at_, hA.at_, hc _ (by omega), hc _ (by omega), cellF_x, cellF_y]
  exact ⟨rfl, rfl⟩
theorem Row.free (h : Row w g t n f) (i : Nat) : w.frozen? ⟨g, i, none⟩ = false := by
  obtain ⟨A, hA, _⟩ := h
  exact hA.free i
theorem Row.here (h : Row w g t n f) : g < w.heap.size := by
  obtain ⟨A, hA, _⟩ := h
  exact hA.here
theorem Row.stays (h : Row w g t n f) (hb : Made B w v) (hg : g < B) : Row v g t n f := by
  obtain ⟨A, hA, r⟩ := h
  exact ⟨A, hA.stays hb hg, r⟩
theorem Row.kept (h : Row w g t n f) (hb : Made w.heap.size w v) : Row v g t n f := h.stays hb h.here
theorem Row.congr (h : Row w g t n f) (e : ∀ i, i < n → f i = f' i) : Row w g t n f' := by
  obtain ⟨A, hA, hs, hc⟩ := h
  refine ⟨A, hA, hs, fun j hj => ?_⟩
  rw [hc j hj]; unfold cellF; rw [e (j / 2) (by omega)]
theorem Row.more (h : Row w g t n f) (o : Obj) : Row (w.alloc o) g t n f := by
  obtain ⟨A, hA, r⟩ := h
  exact ⟨A, hA.more o, r⟩
theorem Row.other (h : Row w g t n f) (p : Addr) (hp : g ≠ p.block) (u : Value) : Row (w.setCell p u) g t n f := by
  obtain ⟨A, hA, r⟩ := h
  exact ⟨A, hA.other p hp u, r⟩
/-- one pair is written -/
theorem Row.put (h : Row w g t n f) {i : Nat} (hi : i < n) (x y : Int) :
    Row ((w.setCell ⟨g, i * 2, none⟩ (.int .i64 x)).setCell ⟨g, i * 2 + 1, none⟩ (.int .i64 y)) g t n (fun j => if j = i then (x, y) else f j) := by
  obtain ⟨A, hA, hs, hc⟩ := h
  refine ⟨_, (hA.put _ _).put _ _, by simpa using hs, fun j hj => ?_⟩
  rw [Array.getElem?_setIfInBounds, Array.getElem?_setIfInBounds]
  by_cases h1 : i * 2 + 1 = j
  · subst h1
    rw [if_pos rfl, if_pos (by simp; omega), cellF_y, if_pos rfl]
  · rw [if_neg h1]
    by_cases h2 : i * 2 = j
    · subst h2
      rw [if_pos rfl, if_pos (by omega), cellF_x, if_pos rfl]
    · rw [if_neg h2, hc j hj]
      unfold cellF
      simp only []
      rw [if_neg (show ¬ j / 2 = i by omega)]
end
/-- a row that append or make has built -/
theorem Row.of_own {w : World} {base n : Nat} {t : TypeId} {v : Value} {f : Nat → Int × Int} (h : w.ownsRow base t 2 v n (flat f n)) (hn : 0 < n) :
    ∃ g cap, v = .slice (some ⟨g, 0, none⟩) n cap ∧ base ≤ g ∧ n ≤ cap ∧ cap ≤ maxLen ∧ Row w g t n f := by
  rcases h.2 with ⟨_, h0⟩ | ⟨g, cap, cur, hv, hb, hh, hc, hm, hs, ht⟩
  · omega
  · refine ⟨g, cap, hv, hb, hc, hm, cur, hh, by omega, fun j hj => ?_⟩
    have e := flat_at f n j hj
    rw [← ht, List.getElem?_take, if_pos hj] at e
    simpa using e
/-- a row of nothing but zeros -/
theorem Row.made (w : World) (t : TypeId) (n : Nat) (A : Array Value) (hA : A.size = n * 2) (h0 : ∀ j, j < n * 2 → A[j]? = some (.int .i64 0)) : Row (w.alloc (.cells A t)) w.heap.size t n (fun _ => (0, 0)) :=
  ⟨A, has_new _ _ _, by omega, fun j hj => by rw [h0 j hj]; unfold cellF; split <;> rfl⟩
theorem zeros_at (n : Nat) : (madeCells #[Value.int .i64 0, Value.int .i64 0] (n * 2)).size = n * 2 ∧ ∀ j, j < n * 2 → (madeCells #[Value.int .i64 0, Value.int .i64 0] (n * 2))[j]? = some (.int .i64 0) := by
  refine ⟨by simp [madeCells], fun j hj => ?_⟩
  rcases (show j % 2 = 0 ∨ j % 2 = 1 by omega) with e | e <;> simp [madeCells, hj, e]
/-! ### what a call owns stays owned -/
section
variable {w v : World} {base n B : Nat} {t : TypeId} {size : Nat} {x : Value} {xs : List Value}
theorem own_stays (h : w.ownsRow base t size x n xs) (k : Made w.heap.size w v) : v.ownsRow base t size x n xs := by
  obtain ⟨h1, h2⟩ := h
  refine ⟨h1, h2.imp id ?_⟩
  rintro ⟨g, cap, cur, e, hb, hh, r⟩
  have hg : g < w.heap.size := Has.here (t := t) (cs := cur) hh
  exact ⟨g, cap, cur, e, hb, (k.1.block g hg).trans hh, r⟩
theorem own_other (h : w.ownsRow base t size x n xs) {p : Addr} (hp : x.ownBlock ≠ some p.block) (u : Value) : (w.setCell p u).ownsRow base t size x n xs := by
  obtain ⟨h1, h2⟩ := h
  refine ⟨h1, h2.imp id ?_⟩
  rintro ⟨g, cap, cur, e, hb, hh, r⟩
  refine ⟨g, cap, cur, e, hb, (Below.heap_setCell w p u g fun e' => hp ?_).trans hh, r⟩
  rw [e, ← e']; rfl
theorem Row.app {g : Nat} {f : Nat → Int × Int} {row : Option Nat} (h : Row w g t n f) (k : w.grownBy v row) (hr : some g ≠ row) : Row v g t n f := by
  obtain ⟨A, hA, r⟩ := h
  exact ⟨A, (k.block g hA.here hr).trans hA, r⟩
theorem Has.app {g : Nat} {A : Array Value} {row : Option Nat} (h : Has w g t A) (k : w.grownBy v row) (hr : some g ≠ row) : Has v g t A := (k.block g h.here hr).trans h
end
theorem news_pair (w : World) (t : TypeId) (x y : Int) : ∀ j u, [Value.int .i64 x, Value.int .i64 y][j]? = some u → (w.alloc (.cells #[.int .i64 x, .int .i64 y] t)).cell? ((⟨w.heap.size, 0, none⟩ : Addr).add j) = some u := by
  intro j u hu
  rw [Addr.add_lit, Nat.zero_add, (has_new w t _).at_]
  simpa using hu
theorem pair_one (x y : Int) : ∀ u ∈ [Value.int .i64 x, Value.int .i64 y], u.oneCell' = true := by
  intro u hu
  simp at hu
  rcases hu with rfl | rfl <;> rfl
end Go.Proofs.YtmdhlobonnikcaaDoor.Fx

/- Regions that draw their order, inside a round of a loop over a function: one walk in the text's order, over a class of worlds; with a tail that comes up in one order alone. -/
namespace Go.Proofs.YtmdhlobonnikcaaDoor.Fx
open Go.ChangeShapes Go.WideShapes Go.ChangeAt Go.RowKit
set_option linter.unusedVariables false

/-- no operation is a defer statement: then a round runs them as everywhere -/
def noDefer (ops : Array Oper) : Bool := ops.all fun o => match o.op with | .defer _ => false | _ => true
theorem noDefer_at {ops : Array Oper} {i : Nat} {o : Oper} (h : noDefer ops = true) (hi : ops[i]? = some o) : ∀ c, o.op ≠ .defer c := by
  intro c e
  have hm : o ∈ ops := by
    obtain ⟨hlt, he⟩ := Array.getElem?_eq_some_iff.1 hi
    exact he ▸ Array.getElem_mem hlt
  have h1 := Array.all_eq_true'.1 h o hm
  rw [e] at h1
  cases h1

section
variable {F : Fence} {n : Nat} {P : Program} {ops : Array Oper} {md : Region.Mode} {C : World → Prop}

theorem wpIn_quiet {o : Oper} {a : Act} {K : Act → Prop} {K' : Act → World → Prop} {Q' : Exit → Act → World → Prop} {w : World} (hnd : ∀ c, o.op ≠ .defer c) (hw : C w) (h : ∀ a w', C w' → K a → K' a w')
    (ha : o.askedIn F P a C) (hh : o.quietIn F n P a C K) : o.wpIn F n P a w K' Q' := by
  obtain ⟨v, h1, h2⟩ := hh
  have h3 := h1 w hw
  unfold Oper.quietAtIn at h3
  unfold Oper.wpIn
  refine ⟨ha w hw, ?_⟩
  rw [Oper.semAt_eq _ _ _ hnd]
  generalize (execOp a.eval o).run P w = r at *
  cases r with
  | ok x w' =>
    cases x <;> simp only [Oper.quietUponIn] at h3 <;> simp only [Oper.uponIn]
    case value u =>
      obtain ⟨e1, e2⟩ := h3
      rw [e1, e2]
      exact h _ _ hw h2
    case skip =>
      obtain ⟨e1, e2⟩ := h3
      rw [e1, ← e2]
      exact h _ _ hw h2
    case enter f args =>
      obtain ⟨e1, hd, hc⟩ := h3
      rw [e1]
      exact ⟨hd, hc.mono fun e w'' ⟨he, hw''⟩ => by subst he; exact h _ _ hw'' h2⟩
  | halt x w' => simp only [Oper.quietUponIn] at h3

theorem opIn_quiet {i : Nat} {a : Act} {K : Act → Prop} {K' : Act → World → Prop} {Q' : Exit → Act → World → Prop} {w : World} (hnd : noDefer ops = true) (hC : C w) (h : ∀ a w', C w' → K a → K' a w')
    (hh : qOpIn F n P ops C i K a) : wpOpIn F n P ops Q' i K' a w := by
  unfold qOpIn at hh
  unfold wpOpIn
  split
  · rename_i ho; simp only [ho] at hh; exact h _ _ hC hh
  · rename_i o ho
    simp only [ho] at hh
    obtain ⟨ha, hh⟩ := hh
    split
    · rename_i hw; simp only [hw, if_true] at hh; exact wpIn_quiet (noDefer_at hnd ho) hC h ha hh
    · rename_i hw; simp only [hw] at hh; exact ⟨ha w hC, h _ _ hC hh⟩

theorem anyIn_quiet {Q : Act → Prop} {Q' : Exit → Act → World → Prop} (hnd : noDefer ops = true) (hQ : ∀ a w, C w → Q a → Q' .normal a w) : ∀ (fuel : Nat) (got : Array Bool) (a : Act) (w : World), C w →
    wpAnyQIn F n P md ops C Q fuel got a → wpAnyIn F n P md ops Q' fuel got a w
  | 0, _, _, _, hw, h => ⟨h.1, hQ _ _ hw h.2⟩
  | fuel + 1, _, _, _, hw, h => ⟨fun h0 => hQ _ _ hw (h.1 h0), fun i hi => opIn_quiet hnd hw (fun a' w' hw' => anyIn_quiet hnd hQ fuel _ a' w' hw') (h.2 i hi)⟩

/-- the whole region is quiet in the class: whatever round it stands in -/
theorem regionIn_quiet {id : Nat} {Q : Exit → Act → World → Prop} {a : Act} {w : World} {l : List Oper} (hnd : noDefer l.toArray = true) (hm : P.follows .mixedOrders = true) (hB : Region.lexB .any l.toArray = true) (hC : C { w with drawn := w.drawn + 1 })
    (h : wpQuietIn F n P l.toArray C (fun a' => ∀ w', C w' → Q .normal a' w') l a) : (Code.region id l.toArray true).wpIn F n P Q a w := by
  simp only [Region.lexB, Bool.and_eq_true] at hB
  refine wpIn_region_any hm (anyIn_quiet (Q := fun a' => ∀ w', C w' → Q .normal a' w') hnd (fun _ w' hw' h => h w' hw') _ _ _ _ hC ?_)
  have := wpAnyQIn_lex (F := F) (n := n) (C := C) (md := .any) hB.1 l 0 (Array.replicate l.toArray.size false) a (by simp) (by simpa using hB.2) h
  simpa using this

/-- the head: whatever comes up is one of the first m and is quiet in the class; when so many have come up, L -/
def headIn (F : Fence) (n : Nat) (P : Program) (md : Region.Mode) (ops : Array Oper) (C : World → Prop) (m : Nat) (L : Array Bool → Act → Prop) : Nat → Array Bool → Act → Prop
  | 0, got, a => L got a
  | f + 1, got, a => Region.ready md ops got ≠ [] ∧ ∀ i ∈ Region.ready md ops got, i < m ∧ qOpIn F n P ops C i (headIn F n P md ops C m L f (got.setIfInBounds i true)) a

theorem headIn_any {m g : Nat} {L : Array Bool → Act → Prop} {Q : Exit → Act → World → Prop} (hnd : noDefer ops = true)
    (hL : ∀ got a w, C w → L got a → wpAnyIn F n P md ops Q g got a w) :
    ∀ (f : Nat) (got : Array Bool) (a : Act) (w : World), C w → headIn F n P md ops C m L f got a → wpAnyIn F n P md ops Q (f + g) got a w
  | 0, got, a, w, hw, h => by rw [Nat.zero_add]; exact hL _ _ _ hw h
  | f + 1, got, a, w, hw, h => by
    rw [show f + 1 + g = (f + g) + 1 by omega]
    exact ⟨fun h0 => absurd h0 h.1, fun i hi => opIn_quiet hnd hw (fun a' w' hw' h' => headIn_any hnd hL f _ a' w' hw' h') (h.2 i hi).2⟩

theorem headIn_first {m i : Nat} {oi : Oper} {v : Value} {L : Array Bool → Act → Prop} (hi : ops[i]? = some oi) (hsel : ∀ (j : Nat) (o : Oper) cs b, ops[j]? = some o → o.op ≠ .select cs b)
    (hs : Region.sinkB md ops m = true) (hc : Region.chainB md ops m = true) (hn : m < ops.size) (hin : i < m)
    (hdone : ∀ got a, L got a → ∀ j ∈ Region.ready md ops got, m ≤ j) :
    ∀ (f : Nat) (got : Array Bool) (a : Act), HeadInv md ops m got →
      (∀ j oj, ops[j]? = some oj → j ≠ i → got.getD j true = false → (∀ e ∈ oj.after, Region.binds md e = true → e.on ≠ i) → oi.apart ops oj = true) →
      i ∈ Region.ready md ops got → YieldsQuiet F n P ops C oi v a →
      headIn F n P md ops C m L f (got.setIfInBounds i true) (a.put oi.dst v) → headIn F n P md ops C m L (f + 1) got a
  | f, got, a, inv, hfree, hr, hy, H => by
    have hun := (mem_ready.1 hr).1
    refine ⟨fun h => (by rw [h] at hr; cases hr), fun j hj => ?_⟩
    have hjn : j < m := by
      rcases Nat.lt_or_ge j m with h | h
      · exact h
      · exact absurd hj (tail_waits hs hc hn inv _ i rfl hin hun j h)
    refine ⟨hjn, ?_⟩
    by_cases hji : j = i
    · subst hji; exact hy.qOpIn hi H
    · have hrj := ready_mono hj hji
      match f, H with
      | 0, H => have := hdone _ _ H j hrj; omega
      | f + 1, H =>
        obtain ⟨hjun, oj, hoj, hall⟩ := mem_ready.1 hj
        have hnot : ∀ e ∈ oj.after, Region.binds md e = true → e.on ≠ i := fun e he hb heq => by
          have h1 := hall e he hb
          rw [heq, getD_both hun] at h1
          cases h1
        have h2 := qOpIn_put hoj (hfree j oj hoj hji hjun hnot) (fun cs b => hsel i oi cs b hi) (fun cs b => hsel j oj cs b hoj) hy (H.2 j hrj).2
        refine qOpIn_mono (fun a' h3 => headIn_first hi hsel hs hc hn hin hdone f (got.setIfInBounds j true) a' (inv.set hj hjn) (fun k ok hk hki hun' hno => ?_) (ready_mono hr (Ne.symm hji)) h3.1 ?_) h2
        · refine hfree k ok hk hki ?_ hno
          by_cases hjk : j = k
          · subst hjk; exact hjun
          · rw [getD_set_ne true hjk] at hun'; exact hun'
        · rw [Array.setIfInBounds_comm _ _ hji]
          exact h3.2

theorem headIn_lex {m g : Nat} {Lq : Act → Prop} (hsel : Region.noSelect ops = true) (hs : Region.sinkB md ops m = true) (hc : Region.chainB md ops m = true) (hn : m < ops.size) :
    ∀ (l : List Oper) (k : Nat) (got : Array Bool) (a : Act), (∀ j, j < l.length → l[j]? = ops[k + j]?) → k + l.length = m → HeadInv md ops m got →
    Region.lexHead md ops g l.length k got = true → wpQuietIn F n P ops C Lq l a →
    headIn F n P md ops C m (fun got' a' => Region.seqB md ops g m got' = true ∧ Lq a') l.length got a
  | [], k, got, a, _, hk, _, hB, h => by
    obtain rfl : k = m := by simpa using hk
    exact ⟨by simpa [Region.lexHead] using hB, h⟩
  | o :: l, k, got, a, hl, hk, inv, hB, h => by
    have h0 : ops[k]? = some o := by simpa using (hl 0 (by simp)).symm
    simp only [List.length_cons, Region.lexHead, Bool.and_eq_true] at hB
    obtain ⟨⟨hr, hf⟩, hB'⟩ := hB
    have hkn : k < m := by simp only [List.length_cons] at hk; omega
    have hr' : k ∈ Region.ready md ops got := by simpa using hr
    have hst : qOpIn F n P ops C k (wpQuietIn F n P ops C Lq l) a := by unfold qOpIn; simp only [h0]; exact h
    obtain ⟨v, hy, hK⟩ := yieldsQuiet_of_qOpIn h0 hst
    exact headIn_first h0 (Region.noSelect_spec hsel) hs hc hn hkn (fun got' a' hL => seqB_ready hL.1) l.length got a inv (Region.free_spec h0 hf) hr' hy
      (headIn_lex hsel hs hc hn l (k + 1) _ _ (fun j hj => by have := hl (j + 1) (by simp; omega); simpa [Nat.add_assoc, Nat.add_comm 1 j] using this) (by simp only [List.length_cons] at hk; omega) (inv.set hr' hkn) hB' hK)

theorem anyIn_of_seq {Q' : Exit → Act → World → Prop} : ∀ (l : List Oper) (k : Nat) (got : Array Bool) (a : Act) (w : World), (∀ j, l[j]? = ops[k + j]?) →
    Region.seqB md ops l.length k got = true → wpListIn F n P ops Q' l a w → wpAnyIn F n P md ops Q' l.length got a w
  | [], _, _, _, _, _, hB, h => ⟨by simpa [Region.seqB] using hB, h⟩
  | o :: l, k, got, a, w, hl, hB, h => by
    have h0 : ops[k]? = some o := by simpa using (hl 0).symm
    simp only [List.length_cons, Region.seqB, Bool.and_eq_true, decide_eq_true_eq] at hB
    refine ⟨fun h1 => (by rw [hB.1] at h1; cases h1), fun i hi => ?_⟩
    rw [hB.1] at hi
    have hik : i = k := by simpa using hi
    subst hik
    have hw : wpOpIn F n P ops Q' i (wpListIn F n P ops Q' l) a w := by unfold wpOpIn; simp only [h0]; exact h
    exact wpOpIn_mono (fun a' w' h' => anyIn_of_seq l (i + 1) _ a' w' (fun j => by have := hl (j + 1); simpa [Nat.add_assoc, Nat.add_comm 1 j] using this) hB.2 h') hw

/-- m operations quiet in the class, in the text's order; then the others, which come up in one order alone, from any world of the class -/
theorem regionIn_tail {id : Nat} {Q : Exit → Act → World → Prop} {a : Act} {w : World} {l : List Oper} (m : Nat) (hnd : noDefer l.toArray = true) (hm : P.follows .mixedOrders = true) (hB : Region.lexTailB .any l.toArray m = true)
    (hC : C { w with drawn := w.drawn + 1 })
    (h : wpQuietIn F n P l.toArray C (fun a' => ∀ w', C w' → wpListIn F n P l.toArray Q (l.drop m) a' w') (l.take m) a) : (Code.region id l.toArray true).wpIn F n P Q a w := by
  simp only [Region.lexTailB, Bool.and_eq_true, decide_eq_true_eq] at hB
  obtain ⟨⟨⟨⟨hsel, hn⟩, hs⟩, hc⟩, hlex⟩ := hB
  have hn' : m < l.length := by simpa using hn
  have htl : (l.take m).length = m := by simp; omega
  have hdl : (l.drop m).length = l.toArray.size - m := by simp
  have inv0 : HeadInv .any l.toArray m (Array.replicate l.toArray.size false) :=
    ⟨by simp, fun j oj _ hl => (by rw [getD_replicate_false] at hl; cases hl), fun t _ ht => getD_in (by simpa using ht) (getD_replicate_false _ _)⟩
  have H := headIn_lex (F := F) (n := n) (md := .any) (g := l.toArray.size - m) hsel hs hc hn (l.take m) 0 _ a (fun j hj => by
    have hj' : j < m := by rw [htl] at hj; exact hj
    simp [hj']) (by simpa using htl) inv0 (by rw [htl]; exact hlex) h
  refine wpIn_region_any hm ?_
  have := headIn_any (Q := Q) (g := l.toArray.size - m) hnd (fun got a' w' hw' hL => by
    have := anyIn_of_seq (F := F) (n := n) (md := .any) (Q' := Q) (l.drop m) m got a' w' (fun j => by simp [List.getElem?_drop]) (by rw [hdl]; exact hL.1) (hL.2 w' hw')
    rwa [hdl] at this) _ _ _ _ hC H
  rw [htl, show m + (l.toArray.size - m) = l.toArray.size by omega] at this
  exact this
end

/-! ### the class 'memory has only been made' -/
section
variable {F : Fence} {n : Nat} {P : Program}
theorem regIn_made {id : Nat} {Q : Exit → Act → World → Prop} {a : Act} {w : World} {l : List Oper} (hnd : noDefer l.toArray = true) (hm : P.follows .mixedOrders = true) (hB : Region.lexB .any l.toArray = true)
    (h : ∀ (T : Type) (_ : Nonempty T) (f : T → World), Class w f → wpQuietIn F n P l.toArray (fun w' => ∃ x, w' = f x) (fun a' => ∀ w', (∃ x, w' = f x) → Q .normal a' w') l a) : (Code.region id l.toArray true).wpIn F n P Q a w := by
  have hT := h {v // Made w.heap.size w v} ⟨w, Made.rfl_ _ _⟩ Subtype.val ⟨fun x => x.2, fun x v hv => ⟨⟨v, x.2.then_ (hv.low x.2.1.size)⟩, rfl⟩⟩
  exact regionIn_quiet (C := fun w' => ∃ x : {v // Made w.heap.size w v}, w' = x.1) hnd hm hB ⟨⟨_, made_draw w⟩, rfl⟩ hT
theorem regIn_made_tail {id : Nat} {Q : Exit → Act → World → Prop} {a : Act} {w : World} {l : List Oper} (m : Nat) (hnd : noDefer l.toArray = true) (hm : P.follows .mixedOrders = true) (hB : Region.lexTailB .any l.toArray m = true)
    (h : ∀ (T : Type) (_ : Nonempty T) (f : T → World), Class w f → wpQuietIn F n P l.toArray (fun w' => ∃ x, w' = f x) (fun a' => ∀ w', (∃ x, w' = f x) → wpListIn F n P l.toArray Q (l.drop m) a' w') (l.take m) a) : (Code.region id l.toArray true).wpIn F n P Q a w := by
  have hT := h {v // Made w.heap.size w v} ⟨w, Made.rfl_ _ _⟩ Subtype.val ⟨fun x => x.2, fun x v hv => ⟨⟨v, x.2.then_ (hv.low x.2.1.size)⟩, rfl⟩⟩
  exact regionIn_tail (C := fun w' => ∃ x : {v // Made w.heap.size w v}, w' = x.1) m hnd hm hB ⟨⟨_, made_draw w⟩, rfl⟩ hT

/-- the first m only read: the tail in the same world behind draws -/
theorem regIn_drawn_tail {id : Nat} {Q : Exit → Act → World → Prop} {a : Act} {w : World} {l : List Oper} (m : Nat) (hnd : noDefer l.toArray = true) (hm : P.follows .mixedOrders = true) (hB : Region.lexTailB .any l.toArray m = true)
    (h : wpQuietIn F n P l.toArray (fun w' => ∃ k, w' = w.drewN k) (fun a' => ∀ w', (∃ k, w' = w.drewN k) → wpListIn F n P l.toArray Q (l.drop m) a' w') (l.take m) a) : (Code.region id l.toArray true).wpIn F n P Q a w :=
  regionIn_tail (C := fun w' => ∃ k, w' = w.drewN k) m hnd hm hB ⟨1, rfl⟩ h

/-- a plain contract, in a round at the wide fence -/
theorem inRound {m : Nat} {k : FuncId} {args : Array Value} {w : World} {R : Ending → World → Prop} (l : Nat) (h : Calls P k args w R) : CallsIn (Fence.wide.inRound l) m P k args w R :=
  CallsIn.inRound l (callsIn_wide.2 h)
end
end Go.Proofs.YtmdhlobonnikcaaDoor.Fx

/- Regions that draw their order, over the class 'what lay below has not turned' (wider than 'memory has only been made': nothing is said of the marks of new blocks): outside a round, and in one. -/
namespace Go.Proofs.YtmdhlobonnikcaaDoor.Fx
open Go.ChangeShapes Go.WideShapes Go.ChangeAt Go.RowKit
set_option linter.unusedVariables false

/-- the class: what lay in w has not turned. T, f: the worlds of the class by name -/
def ClassB (w : World) {T : Type} (f : T → World) : Prop := (∀ x, Below w.heap.size w (f x)) ∧ (∀ x v, Below (f x).heap.size (f x) v → ∃ y, v = f y)
theorem below_draw (w : World) : Below w.heap.size w { w with drawn := w.drawn + 1 } := (made_draw w).1
theorem Below.reads {w v : World} (h : Below w.heap.size w v) {p : Addr} {x : Value} (k : w.cell? p = some x) : v.cell? p = some x := (h.cell (World.block_lt_of_cell? w _ k)).trans k
theorem Below.free {w v : World} (h : Below w.heap.size w v) {p : Addr} {x : Value} {b : Bool} (k : w.cell? p = some x) (kf : w.frozen? p = b) : v.frozen? p = b :=
  (World.frozen?_of_block (h.block p.block (World.block_lt_of_cell? w _ k))).trans kf
theorem Has.below {w v : World} {g B : Nat} {t : TypeId} {cs : Array Value} (h : Has w g t cs) (hb : Below B w v) (hg : g < B) : Has v g t cs := h.kept hb hg

section
variable {P : Program}
theorem reg_below {id : Nat} {Q : Exit → Act → World → Prop} {a : Act} {w : World} {l : List Oper} (hm : P.follows .mixedOrders = true) (hB : Region.lexB .any l.toArray = true)
    (h : ∀ (T : Type) (_ : Nonempty T) (f : T → World), ClassB w f → wpQuiet P l.toArray (fun w' => ∃ x, w' = f x) (fun a' => ∀ w', (∃ x, w' = f x) → Q .normal a' w') l a) : (Code.region id l.toArray true).wp P Q a w := by
  have hT := h {v // Below w.heap.size w v} ⟨w, Below.refl _ _⟩ Subtype.val ⟨fun x => x.2, fun x v hv => ⟨⟨v, x.2.trans (hv.mono x.2.size)⟩, rfl⟩⟩
  exact wp_region_quiet (C := fun w' => ∃ x : {v // Below w.heap.size w v}, w' = x.1) hm hB ⟨⟨_, below_draw w⟩, rfl⟩ hT
theorem reg_below_tail {id : Nat} {Q : Exit → Act → World → Prop} {a : Act} {w : World} {l : List Oper} (n : Nat) (hm : P.follows .mixedOrders = true) (hB : Region.lexTailB .any l.toArray n = true)
    (h : ∀ (T : Type) (_ : Nonempty T) (f : T → World), ClassB w f → wpQuiet P l.toArray (fun w' => ∃ x, w' = f x) (fun a' => ∀ w', (∃ x, w' = f x) → wpList P l.toArray Q (l.drop n) a' w') (l.take n) a) : (Code.region id l.toArray true).wp P Q a w := by
  have hT := h {v // Below w.heap.size w v} ⟨w, Below.refl _ _⟩ Subtype.val ⟨fun x => x.2, fun x v hv => ⟨⟨v, x.2.trans (hv.mono x.2.size)⟩, rfl⟩⟩
  exact region_tail (C := fun w' => ∃ x : {v // Below w.heap.size w v}, w' = x.1) n hm hB ⟨⟨_, below_draw w⟩, rfl⟩ hT

variable {F : Fence} {n : Nat}
theorem regIn_below {id : Nat} {Q : Exit → Act → World → Prop} {a : Act} {w : World} {l : List Oper} (hnd : noDefer l.toArray = true) (hm : P.follows .mixedOrders = true) (hB : Region.lexB .any l.toArray = true)
    (h : ∀ (T : Type) (_ : Nonempty T) (f : T → World), ClassB w f → wpQuietIn F n P l.toArray (fun w' => ∃ x, w' = f x) (fun a' => ∀ w', (∃ x, w' = f x) → Q .normal a' w') l a) : (Code.region id l.toArray true).wpIn F n P Q a w := by
  have hT := h {v // Below w.heap.size w v} ⟨w, Below.refl _ _⟩ Subtype.val ⟨fun x => x.2, fun x v hv => ⟨⟨v, x.2.trans (hv.mono x.2.size)⟩, rfl⟩⟩
  exact regionIn_quiet (C := fun w' => ∃ x : {v // Below w.heap.size w v}, w' = x.1) hnd hm hB ⟨⟨_, below_draw w⟩, rfl⟩ hT
theorem regIn_below_tail {id : Nat} {Q : Exit → Act → World → Prop} {a : Act} {w : World} {l : List Oper} (m : Nat) (hnd : noDefer l.toArray = true) (hm : P.follows .mixedOrders = true) (hB : Region.lexTailB .any l.toArray m = true)
    (h : ∀ (T : Type) (_ : Nonempty T) (f : T → World), ClassB w f → wpQuietIn F n P l.toArray (fun w' => ∃ x, w' = f x) (fun a' => ∀ w', (∃ x, w' = f x) → wpListIn F n P l.toArray Q (l.drop m) a' w') (l.take m) a) : (Code.region id l.toArray true).wpIn F n P Q a w := by
  have hT := h {v // Below w.heap.size w v} ⟨w, Below.refl _ _⟩ Subtype.val ⟨fun x => x.2, fun x v hv => ⟨⟨v, x.2.trans (hv.mono x.2.size)⟩, rfl⟩⟩
  exact regionIn_tail (C := fun w' => ∃ x : {v // Below w.heap.size w v}, w' = x.1) m hnd hm hB ⟨⟨_, below_draw w⟩, rfl⟩ hT

variable {T : Type} {f : T → World} {w : World} {k : FuncId} {args : Array Value} {v : Value}
theorem ClassB.reads (h : ClassB w f) {p : Addr} {u : Value} (k : w.cell? p = some u) (x : T) : (f x).cell? p = some u := Below.reads (h.1 x) k
theorem ClassB.free (h : ClassB w f) {p : Addr} {u : Value} {b : Bool} (k : w.cell? p = some u) (kf : w.frozen? p = b) (x : T) : (f x).frozen? p = b := Below.free (h.1 x) k kf
theorem ClassB.below (h : ClassB w f) {x : T} (hc : Calls P k args (f x) fun e w' => e = .returned v ∧ Below (f x).heap.size (f x) w') : Calls P k args (f x) fun e w'' => e = .returned v ∧ ∃ m, w'' = f m :=
  hc.mono fun _ _ ⟨he, hw⟩ => ⟨he, h.2 x _ hw⟩
theorem ClassB.made (h : ClassB w f) {x : T} (hc : Calls P k args (f x) fun e w' => e = .returned v ∧ Made (f x).heap.size (f x) w') : Calls P k args (f x) fun e w'' => e = .returned v ∧ ∃ m, w'' = f m :=
  hc.mono fun _ _ ⟨he, hw⟩ => ⟨he, h.2 x _ hw.1⟩
theorem ClassB.same (h : ClassB w f) {x : T} (hc : Calls P k args (f x) fun e w' => e = .returned v ∧ f x = w') : Calls P k args (f x) fun e w'' => e = .returned v ∧ ∃ m, w'' = f m :=
  hc.mono fun _ _ ⟨he, hw⟩ => ⟨he, x, hw.symm⟩
theorem ClassB.drawn (h : ClassB w f) {x : T} (hc : Calls P k args (f x) fun e w' => e = .returned v ∧ ∃ n, w' = (f x).drewN n) : Calls P k args (f x) fun e w'' => e = .returned v ∧ ∃ m, w'' = f m :=
  hc.mono fun _ _ ⟨he, n, hw⟩ => ⟨he, h.2 x _ (by rw [hw]; exact ((Made.rfl_ _ _).draws n).1)⟩
theorem ClassB.here (h : ClassB w f) {w' : World} (k : ∃ x, w' = f x) : Below w.heap.size w w' := by obtain ⟨x, rfl⟩ := k; exact h.1 x
end
end Go.Proofs.YtmdhlobonnikcaaDoor.Fx
