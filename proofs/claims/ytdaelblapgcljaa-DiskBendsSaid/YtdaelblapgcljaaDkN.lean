/- A disk as it lies in memory (layer 17): the whole, and what keeps it. -/
import Derived.Test.YtdaelblapgcljaaDkM
namespace Go.Proofs.Ytdaelblapgcljaa.Fx
open Go.ChangeShapes Go.WideShapes Go.ChangeAt Go.RowKit Go.Maps
set_option linter.unusedVariables false

/-- the bytes of a list, as a function -/
def gb (l : List Nat) : Nat → Nat := fun i => l.getD i 0
def encG (c : Chg) : List Value := [.string c.fr, .string c.to, .int .i64 (c.f : Nat)]
theorem encG_len (c : Chg) : (encG c).length = 3 := rfl
theorem encG_one (c : Chg) : ∀ v ∈ encG c, v.oneCell' = true := by
  intro v hv; simp [encG] at hv; rcases hv with rfl | rfl | rfl <;> rfl
/-- where a disk lies -/
structure Dk where
  p : Nat
  bn : Nat
  bs : Nat
  bf : Nat
  co : Option Addr
  cc : Nat
  ar : Int
  dn : Int
  fl : Int
  bl : Nat → Nat
  ro : Nat → Value
abbrev chV (k : Dk) (d : Dsk) : Value := .slice k.co d.chg.length k.cc
def topA (k : Dk) (d : Dsk) : Array Value := #[.int .i64 d.room, .map (some k.bn), .map (some k.bs), chV k d, .map (some k.bf), .int .i64 (d.next : Nat), .bool d.off, .int .i64 d.ops, .int .i64 k.ar, .int .i64 k.dn, .int .i64 k.fl]
/-- what was armed, as the disk counts it -/
structure ArmP (d : Dsk) (ar dn fl : Int) : Prop where
  lo : 0 ≤ ar
  hi : ar ≤ d.ops
  dI : -9223372036854775808 ≤ dn ∧ dn ≤ 9223372036854775807
  fI : -9223372036854775808 ≤ fl ∧ fl ≤ 9223372036854775807
  dn : ∀ n : Int, d.ops ≤ n → n ≤ 1099511627776 → (n - ar = dn ↔ n = d.fell)
  fl : ∀ n : Int, d.ops ≤ n → n ≤ 1099511627776 → (n - ar = fl ↔ n = d.fails)
  was : d.off = true ∨ d.fell < 0 ∨ d.ops ≤ d.fell
/-- numbers that are small enough -/
structure SmD (d : Dsk) : Prop where
  room : 0 ≤ d.room ∧ d.room ≤ 9223372036854775807
  ops : 0 ≤ d.ops ∧ d.ops ≤ 1073741824
  next : d.next ≤ 1073741824
  chg : d.chg.length ≤ 1073741824
  len : lensD d.files ≤ 1073741824
/-- all of it but the struct itself -/
structure Rest (w : World) (k : Dk) (d : Dsk) : Prop where
  mn : ∃ D, w.ownsMap Try.prog 9 (plainElem Try.prog 3) k.bn d.names.length D ∧ NM D d.names
  ms : ∃ D, w.ownsMap Try.prog 9 (plainElem Try.prog 3) k.bs d.sure.length D ∧ NM D d.sure
  mf : ∃ D, w.ownsMap Try.prog 3 ptrE k.bf d.files.length D ∧ FlM k.bl D d.files
  ch : w.ownsRow 0 89 3 (chV k d) d.chg.length (flatE encG d.chg)
  fl : ∀ f ∈ d.files, Has w (k.bl f.id) 86 #[k.ro f.id, .int .i64 (f.sure : Nat)] ∧ OB w 0 (k.ro f.id) f.b.length (gb f.b)
  m1 : k.bn ≠ k.bs
  m2 : k.bn ≠ k.bf
  m3 : k.bs ≠ k.bf
  bi : ∀ f ∈ d.files, ∀ g ∈ d.files, k.bl f.id = k.bl g.id → f.id = g.id
  ri : ∀ f ∈ d.files, ∀ g ∈ d.files, ∀ b, (k.ro f.id).ownBlock = some b → (k.ro g.id).ownBlock = some b → f.id = g.id
structure DAt (w : World) (k : Dk) (d : Dsk) : Prop where
  top : Has w k.p 62 (topA k d)
  arm : ArmP d k.ar k.dn k.fl
  rest : Rest w k d
/-- the blocks that it takes, but for the struct's own -/
def FootR (k : Dk) (d : Dsk) (b : Nat) : Prop := b = k.bn ∨ b = k.bs ∨ b = k.bf ∨ (chV k d).ownBlock = some b ∨ ∃ f ∈ d.files, b = k.bl f.id ∨ (k.ro f.id).ownBlock = some b
def Foot (k : Dk) (d : Dsk) (b : Nat) : Prop := b = k.p ∨ FootR k d b
theorem Rest.lt {w : World} {k : Dk} {d : Dsk} (h : Rest w k d) {b : Nat} (hb : FootR k d b) : b < w.heap.size := by
  rcases hb with rfl | rfl | rfl | hb | ⟨f, hf, rfl | hb⟩
  · obtain ⟨D, h, _⟩ := h.mn; exact h.lt
  · obtain ⟨D, h, _⟩ := h.ms; exact h.lt
  · obtain ⟨D, h, _⟩ := h.mf; exact h.lt
  · exact own_lt h.ch hb
  · exact (h.fl f hf).1.here
  · exact own_lt (h.fl f hf).2 hb
theorem DAt.lt {w : World} {k : Dk} {d : Dsk} (h : DAt w k d) {b : Nat} (hb : Foot k d b) : b < w.heap.size := by
  rcases hb with rfl | hb
  · exact h.top.here
  · exact h.rest.lt hb
theorem Rest.tn {w v : World} {k : Dk} {d : Dsk} {Y : Nat → Prop} (h : Rest w k d) (t : Tn Y w v) (hY : ∀ b, Y b → ¬ FootR k d b) : Rest v k d := by
  have no : ∀ b, FootR k d b → ¬ Y b := fun b hb hy => hY b hy hb
  obtain ⟨D1, a1, b1⟩ := h.mn
  obtain ⟨D2, a2, b2⟩ := h.ms
  obtain ⟨D3, a3, b3⟩ := h.mf
  exact ⟨⟨D1, map_tn a1 t (no _ (.inl rfl)), b1⟩, ⟨D2, map_tn a2 t (no _ (.inr (.inl rfl))), b2⟩, ⟨D3, map_tn a3 t (no _ (.inr (.inr (.inl rfl)))), b3⟩,
    own_tn h.ch t fun g hg => no g (.inr (.inr (.inr (.inl hg)))), fun f hf => ⟨(h.fl f hf).1.tn t (no _ (.inr (.inr (.inr (.inr ⟨f, hf, .inl rfl⟩))))), (h.fl f hf).2.tn t fun g hg => no g (.inr (.inr (.inr (.inr ⟨f, hf, .inr hg⟩))))⟩,
    h.m1, h.m2, h.m3, h.bi, h.ri⟩
theorem DAt.tn {w v : World} {k : Dk} {d : Dsk} {Y : Nat → Prop} (h : DAt w k d) (t : Tn Y w v) (hY : ∀ b, Y b → ¬ Foot k d b) : DAt v k d :=
  ⟨h.top.tn t fun hy => hY _ hy (.inl rfl), h.arm, h.rest.tn t fun b hy hf => hY b hy (.inr hf)⟩
/-- the struct's block is none of the rest's -/
theorem Rest.top_ne {w : World} {k : Dk} {d : Dsk} (h : Rest w k d) {p : Nat} {cs : Array Value} (hp : Has w p 62 cs) : ¬ FootR k d p := by
  have ty : ∀ {t : TypeId} {cs' : Array Value}, w.heap[p]? = some (.cells cs' t (0, 0)) → t = 62 := by
    intro t cs' e
    have := e.symm.trans hp
    simp at this
    exact this.2
  rintro (rfl | rfl | rfl | hb | ⟨f, hf, rfl | hb⟩)
  · obtain ⟨D, h, _⟩ := h.mn; exact map_has h hp rfl
  · obtain ⟨D, h, _⟩ := h.ms; exact map_has h hp rfl
  · obtain ⟨D, h, _⟩ := h.mf; exact map_has h hp rfl
  · obtain ⟨cur, e⟩ := own_ty h.ch hb; exact absurd (ty e) (by decide)
  · exact absurd (ty (h.fl f hf).1) (by decide)
  · obtain ⟨cur, e⟩ := own_ty (h.fl f hf).2 hb; exact absurd (ty e) (by decide)
/-- the rest hangs on names, changes and files alone -/
theorem Rest.of {w : World} {k k' : Dk} {d d' : Dsk} (h : Rest w k d) (e1 : k'.bn = k.bn) (e2 : k'.bs = k.bs) (e3 : k'.bf = k.bf) (e4 : k'.co = k.co) (e5 : k'.cc = k.cc) (e6 : k'.bl = k.bl) (e7 : k'.ro = k.ro)
    (g1 : d'.names = d.names) (g2 : d'.sure = d.sure) (g3 : d'.chg = d.chg) (g4 : d'.files = d.files) : Rest w k' d' := by
  obtain ⟨p, bn, bs, bf, co, cc, ar, dn, fl, bl, ro⟩ := k
  obtain ⟨p', bn', bs', bf', co', cc', ar', dn', fl', bl', ro'⟩ := k'
  obtain ⟨room, ops, fell, fails, off, files, names, sure, chg, next⟩ := d
  obtain ⟨room', ops', fell', fails', off', files', names', sure', chg', next'⟩ := d'
  simp only at e1 e2 e3 e4 e5 e6 e7 g1 g2 g3 g4
  subst e1 e2 e3 e4 e5 e6 e7 g1 g2 g3 g4
  exact ⟨h.mn, h.ms, h.mf, h.ch, h.fl, h.m1, h.m2, h.m3, h.bi, h.ri⟩
/-- what a call leaves of a disk -/
structure DRes (w w' : World) (k : Dk) (d : Dsk) (k' : Dk) (d' : Dsk) : Prop where
  at_ : DAt w' k' d'
  p : k'.p = k.p
  sub : ∀ b, Foot k' d' b → Foot k d b ∨ w.heap.size ≤ b
  tn : Tn (Foot k d) w w'
theorem DRes.then_ {a b c : World} {k k' k'' : Dk} {d d' d'' : Dsk} (h : DRes a b k d k' d') (g : DRes b c k' d' k'' d'') : DRes a c k d k'' d'' :=
  ⟨g.at_, g.p.trans h.p, fun x hx => by
    rcases g.sub x hx with h1 | h1
    · exact h.sub x h1
    · exact .inr (Nat.le_trans h.tn.size h1), h.tn.then_ g.tn h.sub⟩
theorem DRes.rfl_ {w : World} {k : Dk} {d : Dsk} (h : DAt w k d) : DRes w w k d k d := ⟨h, rfl, fun b hb => .inl hb, Tn.rfl_ _ _⟩
/-- memory that only grows -/
theorem DRes.below {w w' : World} {k : Dk} {d : Dsk} (h : DAt w k d) (b : Below w.heap.size w w') : DRes w w' k d k d :=
  ⟨h.tn (Below.tn (X := NilB) b) (fun _ h => h.elim), rfl, fun b hb => .inl hb, Below.tn b⟩
/-- the struct alone is written -/
theorem DAt.top_ {w w' : World} {k k' : Dk} {d d' : Dsk} (h : DAt w k d) (hp : k'.p = k.p) (ht : Has w' k.p 62 (topA k' d')) (t : Tn (fun b => b = k.p) w w') (ha : ArmP d' k'.ar k'.dn k'.fl)
    (e1 : k'.bn = k.bn) (e2 : k'.bs = k.bs) (e3 : k'.bf = k.bf) (e4 : k'.co = k.co) (e5 : k'.cc = k.cc) (e6 : k'.bl = k.bl) (e7 : k'.ro = k.ro)
    (g1 : d'.names = d.names) (g2 : d'.sure = d.sure) (g3 : d'.chg = d.chg) (g4 : d'.files = d.files) : DRes w w' k d k' d' := by
  have hr := (h.rest.tn t (fun b hb => by subst hb; exact h.rest.top_ne h.top)).of e1 e2 e3 e4 e5 e6 e7 g1 g2 g3 g4
  refine ⟨⟨by rw [hp]; exact ht, ha, hr⟩, hp, fun b hb => .inl ?_, t.up fun b hb => .inl (.inl hb)⟩
  rcases hb with hb | hb
  · exact .inl (hb.trans hp)
  · refine .inr ?_
    unfold FootR at hb ⊢
    rw [e1, e2, e3, e6, e7, g4] at hb
    unfold chV at hb ⊢
    rwa [e4, e5, g3] at hb
end Go.Proofs.Ytdaelblapgcljaa.Fx
