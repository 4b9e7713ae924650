/- A range over a function whose elements come with a word on the world in which they come (what they point at lies there): the rounds all end as they should. -/
import Derived.RangeFuncNested
import Derived.RangeFuncBound
import Derived.RangeFuncCalls
import Derived.RangeFuncLeaves
import Derived.Test.YtfkggnlefblniaaDoorMem
namespace Go.Proofs.YtfkggnlefblniaaDoor.Fx
open Go.ChangeShapes Go.WideShapes Go.ChangeAt Go.RowKit
set_option linter.unusedVariables false

/-- the function's promise: it gives elements x of which Φ x holds then; fewer than N have come before each; in the end S of all that came -/
def SeqPhi {α : Type} (F : Fence) (n : Nat) (P : Program) (gf : Nat) (lb : Array Value) (encs : α → Array Value) (Φ : List α → α → World → Prop) (Kp : World → World → Prop) (S : List α → Prop) (N : Nat) (w : World) : Prop :=
  ∀ (l : Nat) (J : List α → World → Prop) (W : World), Below w.heap.size w W → AbidesFrom W.heap.size J →
    (∀ pre x W1, J pre W1 → Φ pre x W1 → pre.length < N → YieldAt F (n - 1) P l (encs x) W1 fun e W' => e = .returned (.bool true) ∧ J (pre ++ [x]) W' ∧ Kp W1 W') → J [] W →
    CallsIn F n P gf (#[.func (.yield l) #[] #[]] ++ lb) W fun e W' => (∃ v, e = .returned v) ∧ ∃ xs, S xs ∧ J xs W'
/-- how a round ends: nothing but cells has turned, and what the function leans on lies there -/
def roundPhi {α : Type} (B : Nat) (Kp : World → World → Prop) (I : List α → World → Prop) (xs : List α) (W : World) : Exit → Act → World → Prop
  | .normal, _, V => KeepsFrom B W V ∧ Kp W V ∧ I xs V
  | _, _, _ => False
theorem range_phi {F : Fence} {n : Nat} {P : Program} {α : Type} {g : Operand} {ps : Array Tmp} {assign body : Code} {Q : Exit → Act → World → Prop} {a : Act} {w : World} (hro : F.round = none) (h1 : 1 ≤ n)
    {gf : Nat} {lb : Array Value} (hg : a.eval g = .func (.func gf) #[] lb) (hF : F.fn gf) (eg : ∀ args w, (callFunc gf args).run P w = .ok (.enter gf args) w)
    {encs : α → Array Value} {Φ : List α → α → World → Prop} {Kp : World → World → Prop} {S : List α → Prop} {N : Nat} (hseq : SeqPhi F (n - 1) P gf lb encs Φ Kp S N w)
    (hKt : ∀ {A B C : World}, Kp A B → Kp B C → Kp A C) (hKb : ∀ (W : World) (l : Nat) (o o' : Obj), w.heap.size ≤ l → W.heap[l]? = some o → o.isCells = false → o.isWalk = false → Kp W (W.putObj l o')) (hps : ∀ x, (encs x).size = ps.size)
    (I : List α → World → Prop) (hI : OwnFrom w.heap.size I) (h0 : I [] w) (Ax : List α → α → Act → World → Prop) (hAx : ∀ pre x a', OwnFrom w.heap.size (fun (_ : Unit) W => Ax pre x a' W))
    (hassign : ∀ (l : Nat) (pre : List α) (x : α) (W : World) (K : Act → World → Prop), I pre W → Φ pre x W → (∀ a' W', KeepsFrom w.heap.size W W' → Kp W W' → I pre W' → Ax pre x a' W' → K a' W') →
      assign.wpIn (F.inRound l) (n - 1 - 1) P (Exit.then K (fun _ _ _ => False)) { tmps := (ps.zip (encs x)).foldl (fun t (p, v) => t.setIfInBounds p v) a.tmps, defers := [] } W)
    (hbody : ∀ (l : Nat) (pre : List α) (x : α) (a' : Act) (W : World), I pre W → Ax pre x a' W → pre.length < N → body.wpIn (F.inRound l) (n - 1 - 1) P (roundPhi w.heap.size Kp I (pre ++ [x]) W) a' W)
    (hdone : ∀ (D : Nat) (xs : List α) (W : World), w.heap.size ≤ D → S xs → I xs W → W.heap[D]? = some (.deferred (some [])) → Q .normal { a with defers := { target := .collected D, args := #[] } :: a.defers } W) :
    (Code.rangeFunc g ps assign body).wpIn F n P Q a w := by
  refine wpIn_rangeFunc fun fn hfn => ?_
  rw [hro]
  obtain ⟨D, eD⟩ : ∃ D, w.heap.size = D := ⟨_, rfl⟩
  obtain ⟨R, eR⟩ : ∃ R : LoopState → Loop, ∀ st, R st = { state := st, pending := none, fn, tmps := a.tmps, params := ps, assign, body, defers := D } := ⟨fun st => _, fun st => rfl⟩
  obtain ⟨V, eV⟩ : ∃ V, (w.alloc (.deferred (some []))).alloc (.loop (R .ready)) = V := ⟨_, rfl⟩
  -- what lies in the world in which the function is called
  have vD : V.heap[D]? = some (.deferred (some [])) := by rw [← eV, ← eD]; exact (Below.heap_alloc _ _ _ (by simp)).trans (World.alloc_heap_new w _)
  have vL : V.heap[D + 1]? = some (.loop (R .ready)) := by
    have h := World.alloc_heap_new (w.alloc (.deferred (some []))) (.loop (R .ready))
    rw [World.size_alloc, eV, eD] at h
    exact h
  have vI : I [] V := by rw [← eV]; exact hI.alloc _ (hI.alloc _ h0)
  have vB : Below w.heap.size w V := by rw [← eV]; exact ((Below.refl _ w).alloc (Nat.le_refl _) _).alloc (by simp) _
  have vS : D + 2 ≤ V.heap.size := by rw [← eV, ← eD]; simp
  rw [eD] at hI hAx hassign hbody hdone hKb
  refine ⟨D + 1, [{ target := .collected D, args := #[] }], V, { target := .fn (.func gf) lb, args := #[.func (.yield (D + 1)) #[] #[]] }, V, gf, #[.func (.yield (D + 1)) #[] #[]] ++ lb, V, ?enter, ?res, ?leads, ?inv, fun _ => h1, ?call⟩
  case enter => rw [← eV, eR, ← eD]; exact run_enterLoop_outer _ _ _ _ _
  case res =>
    simp only [resolve, hg]
    simp [go_sem]
  case leads => intro f' hf'; simp [Target.leads] at hf'; subst hf'; exact hF
  case inv => simp [invoke, go_sem, eg]
  case call =>
    -- the function keeps the record and the block of deferred calls: they are no walk's objects
    have keep : ∀ {A B : World} {row : Option Nat} {k : Nat} {o : Obj}, A.grownBy B row → (∀ r, row = some r → V.heap.size ≤ r ∧ ∃ o : Obj, A.heap[r]? = some o ∧ o.isWalk = true) → A.heap[k]? = some o → o.isWalk = false → B.heap[k]? = some o :=
      fun hgr hr hk ho => (grownBy_keeps hgr (fun r e => (hr r e).2) hk ho).trans hk
    refine (hseq (D + 1) (fun pre W => I pre W ∧ W.heap[D + 1]? = some (.loop (R .ready)) ∧ W.heap[D]? = some (.deferred (some []))) V vB ?abides ?round ⟨vI, vL, vD⟩).mono ?behind
    case abides =>
      intro s A B row hs hgr hr
      exact ⟨hI s A B row hs.1 hgr (fun r e => by obtain ⟨h, o, ho, hw⟩ := hr r e; exact ⟨by omega, o, ho, Obj.not_cells_of_walk hw⟩), keep hgr hr hs.2.1 rfl, keep hgr hr hs.2.2 rfl⟩
    case behind =>
      rintro e W ⟨⟨v, rfl⟩, xs, hS, hi, hl, hd⟩
      have he := run_endLoop (P := P) hl (by rw [eR]; simp)
      have hp : (R .ready).pending = none := by rw [eR]
      rw [hp] at he
      exact ⟨none, _, he, hdone D xs _ (Nat.le_refl _) hS (hI.putObj _ hi (by omega) hl rfl) ((World.putObj_heap_other (by omega)).trans hd)⟩
    case round =>
      rintro pre x W ⟨hi, hl, hd⟩ hΦ hlen
      have hy := run_yield (P := P) (args := encs x) hl (by rw [eR]; exact hps x)
      rw [eR] at hy
      refine ⟨fn, _, assign, body, hy, roundIn_of_wpIn hfn (hassign _ pre x W _ hi hΦ fun a' U hk hkp hi hax => ?_)⟩
      clear hy
      have ul := hk.same _ _ (by omega) hl rfl
      have ud := hk.same _ _ (Nat.le_refl _) hd rfl
      have us : D + 1 < U.heap.size := (Array.getElem?_eq_some_iff.1 ul).1
      refine ⟨_, run_beginRound ul (by rw [eR]), ?_⟩
      obtain ⟨X, eX⟩ : ∃ X, U.putObj (D + 1) (.loop { R .ready with state := .busy }) = X := ⟨_, rfl⟩
      have xl : X.heap[D + 1]? = some (.loop { R .ready with state := .busy }) := by rw [← eX]; exact World.putObj_heap_same us
      have xd : X.heap[D]? = some (.deferred (some [])) := by rw [← eX]; exact (World.putObj_heap_other (by omega)).trans ud
      have xk : Kp U X := by rw [← eX]; exact hKb _ _ _ _ (by omega) ul rfl rfl
      have xi : I pre X := by rw [← eX]; exact hI.putObj _ hi (by omega) ul rfl
      have xa : Ax pre x a' X := by rw [← eX]; exact (hAx pre x a').putObj (s := ()) _ hax (by omega) ul rfl
      rw [eX]
      refine wpIn_mono (hbody _ pre x a' X xi xa hlen) ?_
      rintro e a3 Y hp
      cases e with
      | normal =>
        obtain ⟨yk, ykp, yi⟩ := hp
        have yl := yk.same _ _ (by omega) xl rfl
        have yd := yk.same _ _ (Nat.le_refl _) xd rfl
        have hr := run_endRound (P := P) none yl
        have e2 : ({ ({ R .ready with state := .busy } : Loop) with state := if (none : Option Code).isNone then .ready else .done, pending := none } : Loop) = R .ready := by rw [eR]; rfl
        rw [e2] at hr
        exact ⟨_, _, hr, rfl, ⟨hI.putObj _ yi (by omega) yl rfl, World.putObj_heap_same (Array.getElem?_eq_some_iff.1 yl).1, (World.putObj_heap_other (by omega)).trans yd⟩, hKt hkp (hKt (hKt xk ykp) (hKb _ _ _ _ (by omega) yl rfl rfl))⟩
      | _ => exact hp.elim
end Go.Proofs.YtfkggnlefblniaaDoor.Fx
