/- Package disk: two disks beside each other; a disk's copy grows by a file. -/
import Derived.Test.YtdaelblapgcljaaDlH
namespace Go.Proofs.Ytdaelblapgcljaa.Fx
open Go.ChangeShapes Go.WideShapes Go.ChangeAt Go.RowKit Go.Maps Go.Sort
set_option linter.unusedVariables false

/-- two disks of the call's own that share no block -/
structure Two (B : Nat) (w0 w : World) (k : Dk) (d : Dsk) (n : Nat) (k' : Dk) (d' : Dsk) (n' : Nat) : Prop where
  one : OnK B w0 w k d n []
  two : OnK B w0 w k' d' n' []
  apart : ∀ b, Foot k d b → ¬ Foot k' d' b
theorem Two.swap {B : Nat} {w0 w : World} {k : Dk} {d : Dsk} {n : Nat} {k' : Dk} {d' : Dsk} {n' : Nat} (h : Two B w0 w k d n k' d' n') : Two B w0 w k' d' n' k d n := ⟨h.two, h.one, fun b hb hb' => h.apart b hb' hb⟩
/-- the first one turns -/
theorem Two.step {B : Nat} {w0 w w' : World} {k k1 : Dk} {d d1 : Dsk} {n n1 : Nat} {k' : Dk} {d' : Dsk} {n' : Nat} (h : Two B w0 w k d n k' d' n') (r : DRes w w' k d k1 d1) (ho : DOl d1) (hb : BudD d1 n1) : Two B w0 w' k1 d1 n1 k' d' n' := by
  have h1 := (h.one.step r ho hb).1
  refine ⟨h1, ⟨h.two.at_.tn r.tn h.apart, h.two.ol, h.two.bud, h1.bel, h1.lo, h.two.foot, fun b hb => by cases hb⟩, fun b hb hb' => ?_⟩
  rcases r.sub b hb with h2 | h2
  · exact h.apart b h2 hb'
  · have := h.two.at_.lt hb'; omega
/-- a copy that lies in new blocks -/
theorem Two.mk' {B : Nat} {w0 w w' : World} {k k' : Dk} {d : Dsk} {n : Nat} (h : OnK B w0 w k d n []) (hb : Below w.heap.size w w') (h2 : DAt w' k' d) (hf : ∀ b, Foot k' d b → w.heap.size ≤ b) : Two B w0 w' k d n k' d n := by
  have h1 := (h.step (DRes.below h.at_ hb) h.ol h.bud).1
  exact ⟨h1, ⟨h2, h.ol, h.bud, h1.bel, h1.lo, fun b hb => Nat.le_trans h.lo (hf b hb), fun b hb => by cases hb⟩, fun b hb hb' => by
    have := h.at_.lt hb; have := hf b hb'; omega⟩
def Dk.addf (k : Dk) (i g : Nat) (x : Value) : Dk := { k with bl := fun j => if j = i then g else k.bl j, ro := fun j => if j = i then x else k.ro j }
/-- a file more -/
theorem Rest.addf {w v : World} {k : Dk} {d : Dsk} {F F' : List Fil} (h : Rest w k { d with files := F }) {f : Fil} {g : Nat} {x : Value} (hne : ∀ y ∈ F, y.id ≠ f.id) (hg : w.heap.size ≤ g) (hH : Has v g 86 #[x, .int .i64 (f.sure : Nat)]) (hO : OB v 0 x f.b.length (gb f.b)) (hx : ∀ b, x.ownBlock = some b → w.heap.size ≤ b)
    {D : DataW Unit} (hm : FlM k.bl D F) (hown : v.ownsMap Try.prog 3 ptrE k.bf (F.length + 1) (D.put (kk (f.id : Nat)) (.lit (.int .i64 (g : Nat))))) (t : Tn (fun b => b = k.bf) w v) (hp : F'.Perm (f :: F)) :
    Rest v (k.addf f.id g x) { d with files := F' } ∧ ∀ b, FootR (k.addf f.id g x) { d with files := F' } b → FootR k { d with files := F } b ∨ w.heap.size ≤ b := by
  obtain ⟨D1, a1, b1⟩ := h.mn
  obtain ⟨D2, a2, b2⟩ := h.ms
  obtain ⟨D3, a3, b3⟩ := h.mf
  have mem : ∀ y, y ∈ F' → y = f ∨ y ∈ F := fun y hy => List.mem_cons.1 (hp.mem_iff.1 hy)
  have e1 : ∀ y ∈ F, (k.addf f.id g x).bl y.id = k.bl y.id := fun y hy => by show (if y.id = f.id then g else _) = _; rw [if_neg (hne y hy)]
  have e2 : ∀ y ∈ F, (k.addf f.id g x).ro y.id = k.ro y.id := fun y hy => by show (if y.id = f.id then x else _) = _; rw [if_neg (hne y hy)]
  have e3 : (k.addf f.id g x).bl f.id = g := by show (if f.id = f.id then g else _) = g; rw [if_pos rfl]
  have e4 : (k.addf f.id g x).ro f.id = x := by show (if f.id = f.id then x else _) = x; rw [if_pos rfl]
  have hfile : ∀ y ∈ F, Has v (k.bl y.id) 86 #[k.ro y.id, .int .i64 (y.sure : Nat)] ∧ OB v 0 (k.ro y.id) y.b.length (gb y.b) := fun y hy => by
    have h1 := h.fl y hy
    exact ⟨h1.1.tn t fun e => map_has a3 h1.1 e, h1.2.tn t fun z hz e => map_own a3 h1.2 hz e⟩
  refine ⟨⟨⟨D1, map_tn a1 t (fun e => h.m2 e), b1⟩, ⟨D2, map_tn a2 t (fun e => h.m3 e), b2⟩, ⟨_, by rw [hp.length_eq]; exact hown, ?_⟩, own_tn h.ch t fun z hz e => map_own a3 h.ch hz e, ?_, h.m1, h.m2, h.m3, ?_, ?_⟩, ?_⟩
  · have hm' : FlM (k.addf f.id g x).bl D F := hm.el_congr fun y hy => by show DataW.lit _ = DataW.lit _; rw [e1 y hy]
    have h5 := MH.put hm' (fun n => kk_key _) f (l' := F') (fun n hn => by
      rcases mem n hn with hn | hn
      · exact .inl hn
      · exact .inr ⟨hn, kk_ne (by have := hne n hn; show (n.id : Int) ≠ (f.id : Int); omega)⟩) (hp.mem_iff.2 (List.mem_cons_self ..)) (fun n hn _ => hp.mem_iff.2 (List.mem_cons_of_mem _ hn))
    have e5 : elF (k.addf f.id g x).bl f = .lit (.int .i64 (g : Nat)) := by show DataW.lit _ = _; rw [e3]
    rw [e5] at h5
    exact h5
  · intro y hy
    rcases mem y hy with rfl | hy
    · rw [e3, e4]; exact ⟨hH, hO⟩
    · rw [e1 y hy, e2 y hy]; exact hfile y hy
  · intro y hy z hz e
    rcases mem y hy with rfl | hy <;> rcases mem z hz with rfl | hz
    · rfl
    · rw [e1 z hz, e3] at e
      have := (h.fl z hz).1.here
      omega
    · rw [e1 y hy, e3] at e
      have := (h.fl y hy).1.here
      omega
    · rw [e1 y hy, e1 z hz] at e; exact h.bi y hy z hz e
  · intro y hy z hz b hb hb'
    rcases mem y hy with rfl | hy <;> rcases mem z hz with rfl | hz
    · rfl
    · rw [e4] at hb
      rw [e2 z hz] at hb'
      have := hx b hb
      have := own_lt (h.fl z hz).2 hb'
      omega
    · rw [e4] at hb'
      rw [e2 y hy] at hb
      have := hx b hb'
      have := own_lt (h.fl y hy).2 hb
      omega
    · rw [e2 y hy] at hb; rw [e2 z hz] at hb'; exact h.ri y hy z hz b hb hb'
  · rintro b (hb | hb | hb | hb | ⟨y, hy, hb⟩)
    · exact .inl (.inl hb)
    · exact .inl (.inr (.inl hb))
    · exact .inl (.inr (.inr (.inl hb)))
    · exact .inl (.inr (.inr (.inr (.inl hb))))
    · rcases mem y hy with rfl | hy
      · rw [e3, e4] at hb
        rcases hb with rfl | hb
        · exact .inr hg
        · exact .inr (hx b hb)
      · rw [e1 y hy, e2 y hy] at hb
        exact .inl (.inr (.inr (.inr (.inr ⟨y, hy, hb⟩))))
end Go.Proofs.Ytdaelblapgcljaa.Fx
