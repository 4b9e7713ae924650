/- WoP -/
import Derived.Test.YtfncelifflebbaaGreatV2
import Derived.Test.YtfncelifflebbaaGreatV5

/- Worlds in memory: what changes but some blocks; bodies, joints and contacts as lists. -/


namespace Go.Proofs.YtfncelifflebbaaGreat.Fx
open Go.ChangeShapes Go.WideShapes Go.ChangeAt Go.RowKit
set_option linter.unusedVariables false

structure But (X : Nat → Prop) (w v : World) : Prop where
  os : v.os = w.os
  tape : v.tape = w.tape
  output : v.output = w.output
  size : w.heap.size ≤ v.heap.size
  block : ∀ b, b < w.heap.size → ¬ X b → v.heap[b]? = w.heap[b]?
  marks : ∀ a, v.frozen? a = w.frozen? a
def Nil0 : Nat → Prop := fun _ => False
theorem But.rfl_ (X : Nat → Prop) (w : World) : But X w w := ⟨rfl, rfl, rfl, Nat.le_refl _, fun _ _ _ => rfl, fun _ => rfl⟩
theorem But.then_ {X : Nat → Prop} {a b c : World} (h : But X a b) (k : But X b c) : But X a c :=
  ⟨k.os.trans h.os, k.tape.trans h.tape, k.output.trans h.output, Nat.le_trans h.size k.size, fun i hi hx => (k.block i (Nat.lt_of_lt_of_le hi h.size) hx).trans (h.block i hi hx), fun x => (k.marks x).trans (h.marks x)⟩
theorem Made.but {X : Nat → Prop} {w v : World} (h : Made w.heap.size w v) : But X w v :=
  ⟨h.1.os, h.1.tape, h.1.output, h.1.size, fun b hb _ => h.1.block b hb, h.2⟩
theorem But.made_ {X : Nat → Prop} {B : Nat} {a w v : World} (h : Made B a w) (k : But X w v) (hB : B ≤ w.heap.size) (hX : ∀ b, X b → B ≤ b) : Made B a v := by
  refine ⟨⟨k.os.trans h.1.os, k.tape.trans h.1.tape, k.output.trans h.1.output, Nat.le_trans h.1.size k.size, fun b hb => ?_⟩, fun x => (k.marks x).trans (h.2 x)⟩
  exact (k.block b (Nat.lt_of_lt_of_le hb hB) (fun hx => by have := hX b hx; omega)).trans (h.1.block b hb)
theorem But.made {w v : World} (k : But Nil0 w v) : Made w.heap.size w v := But.made_ (Made.rfl_ _ _) k (Nat.le_refl _) (fun _ h => h.elim)
theorem But.up {X Y : Nat → Prop} {w v : World} (k : But X w v) (h : ∀ b, b < w.heap.size → X b → Y b) : But Y w v :=
  ⟨k.os, k.tape, k.output, k.size, fun b hb hy => k.block b hb (fun hx => hy (h b hb hx)), k.marks⟩
theorem But.any {X : Nat → Prop} {w v : World} (k : But Nil0 w v) : But X w v := k.up (fun _ _ h => h.elim)
theorem But.alloc {X : Nat → Prop} {a w : World} (h : But X a w) (c : Array Value) (t : TypeId) : But X a (w.alloc (.cells c t)) :=
  h.then_ (Made.but ((Made.rfl_ _ _).cells (Nat.le_refl _) c t))
theorem But.draws {X : Nat → Prop} {a w : World} (h : But X a w) (n : Nat) : But X a (w.drewN n) := h.then_ (Made.but ((Made.rfl_ _ _).draws n))
theorem But.put {X : Nat → Prop} {a w : World} (h : But X a w) {p : Addr} (hp : X p.block ∨ a.heap.size ≤ p.block) (u : Value) : But X a (w.setCell p u) := by
  have e : (w.setCell p u).heap.size = w.heap.size := by simp [World.setCell]
  refine ⟨h.os, h.tape, h.output, Nat.le_trans h.size (Nat.le_of_eq e.symm), fun b hb hx => ?_, fun x => (World.frozen?_setCell _ _ _ _).trans (h.marks x)⟩
  refine (Below.heap_setCell w p u b ?_).trans (h.block b hb hx)
  rintro rfl
  rcases hp with hp | hp
  · exact hx hp
  · omega
theorem But.cell {X : Nat → Prop} {w v : World} (h : But X w v) {p : Addr} {x : Value} (k : w.cell? p = some x) (hx : ¬ X p.block) : v.cell? p = some x :=
  (World.cell?_of_block (h.block p.block (World.block_lt_of_cell? w _ k) hx)).trans k
theorem Has.but {X : Nat → Prop} {w v : World} {g : Nat} {t : TypeId} {cs : Array Value} (h : Has w g t cs) (k : But X w v) (hx : ¬ X g) : Has v g t cs := (k.block g h.here hx).trans h
def Offs (X : Nat → Prop) (ao : Option Addr) : Prop := ∀ b off s, ao = some ⟨b, off, s⟩ → ¬ X b
theorem Offs.nil (ao : Option Addr) : Offs Nil0 ao := fun _ _ _ _ h => h
section
variable {α : Type} {enc : α → List Value} {k : Nat}
theorem LsB.but {X : Nat → Prop} {w v : World} {b off : Nat} {l : List α} (h : LsB enc k w b off l) (kk : But X w v) (hx : ¬ X b) : LsB enc k v b off l := fun i x hi j u hu => kk.cell (h i x hi j u hu) hx
theorem LsT.but {X : Nat → Prop} {w v : World} {ao : Option Addr} {l : List α} (h : LsT enc k w ao l) (kk : But X w v) (hx : Offs X ao) : LsT enc k v ao l := fun hl => by
  obtain ⟨b, off, e, hb, h⟩ := h hl
  exact ⟨b, off, e, Nat.lt_of_lt_of_le hb kk.size, h.but kk (hx b off _ e)⟩
end
theorem Pts.but {X : Nat → Prop} {w v : World} {b off n : Nat} {f : Nat → Int × Int} (h : Pts w b off n f) (k : But X w v) (hx : ¬ X b) : Pts v b off n f := fun i hi => ⟨k.cell (h i hi).1 hx, k.cell (h i hi).2 hx⟩
theorem Sl.but {X : Nat → Prop} {w v : World} {ao : Option Addr} {n : Nat} {f : Cs} (h : Sl w ao n f) (k : But X w v) (hx : Offs X ao) : Sl v ao n f := fun hn => by
  obtain ⟨b, off, e, hp⟩ := h hn
  exact ⟨b, off, e, hp.but k (hx b off _ e)⟩


structure Bd where
  id : Int
  x : Int
  y : Int
  vx : Int
  vy : Int
  an : Int
  sp : Int
  de : Int
  k : Int
  r : Int
  ao : Option Addr
  n : Nat
  c : Nat
  f : Cs
structure Jt where
  id : Int
  a : Int
  b : Int
  ax : Int
  ay : Int
  tx : Int
  ty : Int
  ln : Int
structure Ct where
  a : Int
  b : Int
  key : Int
  n : Int
  t : Int
abbrev bdV (b : Bd) : Value := bodyV b.id b.x b.y b.vx b.vy b.an b.sp b.de b.k b.r (.slice b.ao b.n b.c)
abbrev jtV (j : Jt) : Value := .agg #[.int .i64 j.id, .int .i64 j.a, .int .i64 j.b, .int .i64 j.ax, .int .i64 j.ay, .int .i64 j.tx, .int .i64 j.ty, .int .i64 j.ln]
abbrev ctV (c : Ct) : Value := .agg #[.int .i64 c.a, .int .i64 c.b, .int .i64 c.key, .int .i64 c.n, .int .i64 c.t]
def encB (b : Bd) : List Value := [.int .i64 b.id, .int .i64 b.x, .int .i64 b.y, .int .i64 b.vx, .int .i64 b.vy, .int .i64 b.an, .int .i64 b.sp, .int .i64 b.de, .int .i64 b.k, .int .i64 b.r, .slice b.ao b.n b.c]
def encJ (j : Jt) : List Value := [.int .i64 j.id, .int .i64 j.a, .int .i64 j.b, .int .i64 j.ax, .int .i64 j.ay, .int .i64 j.tx, .int .i64 j.ty, .int .i64 j.ln]
def encC (c : Ct) : List Value := [.int .i64 c.a, .int .i64 c.b, .int .i64 c.key, .int .i64 c.n, .int .i64 c.t]
theorem encB_len (b : Bd) : (encB b).length = 11 := rfl
theorem encJ_len (j : Jt) : (encJ j).length = 8 := rfl
theorem encC_len (c : Ct) : (encC c).length = 5 := rfl
theorem encB_one (x : Bd) : ∀ v ∈ encB x, v.oneCell' = true := by
  intro v hv; simp [encB] at hv; rcases hv with rfl | rfl | rfl | rfl | rfl | rfl | rfl | rfl | rfl | rfl | rfl <;> rfl
theorem encJ_one (x : Jt) : ∀ v ∈ encJ x, v.oneCell' = true := by
  intro v hv; simp [encJ] at hv; rcases hv with rfl | rfl | rfl | rfl | rfl | rfl | rfl | rfl <;> rfl
theorem encC_one (x : Ct) : ∀ v ∈ encC x, v.oneCell' = true := by
  intro v hv; simp [encC] at hv; rcases hv with rfl | rfl | rfl | rfl | rfl <;> rfl
theorem ElT.b11 {w : World} {b o : Nat} {x : Bd} (h : ElT encB w b o x) : w.cell? ⟨b, o, none⟩ = some (.int .i64 x.id) ∧ w.cell? ⟨b, o + 1, none⟩ = some (.int .i64 x.x) ∧ w.cell? ⟨b, o + 2, none⟩ = some (.int .i64 x.y) ∧ w.cell? ⟨b, o + 3, none⟩ = some (.int .i64 x.vx) ∧ w.cell? ⟨b, o + 4, none⟩ = some (.int .i64 x.vy) ∧ w.cell? ⟨b, o + 5, none⟩ = some (.int .i64 x.an) ∧ w.cell? ⟨b, o + 6, none⟩ = some (.int .i64 x.sp) ∧ w.cell? ⟨b, o + 7, none⟩ = some (.int .i64 x.de) ∧ w.cell? ⟨b, o + 8, none⟩ = some (.int .i64 x.k) ∧ w.cell? ⟨b, o + 9, none⟩ = some (.int .i64 x.r) ∧ w.cell? ⟨b, o + 10, none⟩ = some (.slice x.ao x.n x.c) :=
  ⟨h 0 _ rfl, h 1 _ rfl, h 2 _ rfl, h 3 _ rfl, h 4 _ rfl, h 5 _ rfl, h 6 _ rfl, h 7 _ rfl, h 8 _ rfl, h 9 _ rfl, h 10 _ rfl⟩
theorem ElT.j8 {w : World} {b o : Nat} {x : Jt} (h : ElT encJ w b o x) : w.cell? ⟨b, o, none⟩ = some (.int .i64 x.id) ∧ w.cell? ⟨b, o + 1, none⟩ = some (.int .i64 x.a) ∧ w.cell? ⟨b, o + 2, none⟩ = some (.int .i64 x.b) ∧ w.cell? ⟨b, o + 3, none⟩ = some (.int .i64 x.ax) ∧ w.cell? ⟨b, o + 4, none⟩ = some (.int .i64 x.ay) ∧ w.cell? ⟨b, o + 5, none⟩ = some (.int .i64 x.tx) ∧ w.cell? ⟨b, o + 6, none⟩ = some (.int .i64 x.ty) ∧ w.cell? ⟨b, o + 7, none⟩ = some (.int .i64 x.ln) :=
  ⟨h 0 _ rfl, h 1 _ rfl, h 2 _ rfl, h 3 _ rfl, h 4 _ rfl, h 5 _ rfl, h 6 _ rfl, h 7 _ rfl⟩
theorem ElT.c5 {w : World} {b o : Nat} {x : Ct} (h : ElT encC w b o x) : w.cell? ⟨b, o, none⟩ = some (.int .i64 x.a) ∧ w.cell? ⟨b, o + 1, none⟩ = some (.int .i64 x.b) ∧ w.cell? ⟨b, o + 2, none⟩ = some (.int .i64 x.key) ∧ w.cell? ⟨b, o + 3, none⟩ = some (.int .i64 x.n) ∧ w.cell? ⟨b, o + 4, none⟩ = some (.int .i64 x.t) :=
  ⟨h 0 _ rfl, h 1 _ rfl, h 2 _ rfl, h 3 _ rfl, h 4 _ rfl⟩
structure BdI (b : Bd) : Prop where
  id : I64 b.id
  x : I64 b.x
  y : I64 b.y
  vx : I64 b.vx
  vy : I64 b.vy
  an : I64 b.an
  sp : I64 b.sp
  de : I64 b.de
  k : I64 b.k
  r : I64 b.r
  f : Cin b.f b.n
def JtI (j : Jt) : Prop := I64 j.id ∧ I64 j.a ∧ I64 j.b ∧ I64 j.ax ∧ I64 j.ay ∧ I64 j.tx ∧ I64 j.ty ∧ I64 j.ln
def CtI (c : Ct) : Prop := I64 c.a ∧ I64 c.b ∧ I64 c.key ∧ I64 c.n ∧ I64 c.t

def Inn (a m : Int) : Prop := -m ≤ a ∧ a ≤ m
structure BodyP (b : Bd) : Prop where
  shape : RightP b.k b.r b.n b.f
  x : Inn b.x 4503599627370496
  y : Inn b.y 4503599627370496
  vx : Inn b.vx 17592186044416
  vy : Inn b.vy 17592186044416
  sp : Inn b.sp 1099511627776
  an : 0 ≤ b.an ∧ b.an ≤ 4294967295
  de : 0 ≤ b.de ∧ b.de ≤ 4398046511104
  still : b.de = 0 → b.vx = 0 ∧ b.vy = 0 ∧ b.sp = 0
structure JointP (j : Jt) : Prop where
  ax : Inn j.ax 274877906944
  ay : Inn j.ay 274877906944
  tx : Inn j.tx 274877906944
  ty : Inn j.ty 274877906944
  ln : 0 ≤ j.ln ∧ j.ln ≤ 4503599627370496
  a : 1 ≤ j.a
  b : 1 ≤ j.b
  ab : j.a ≠ j.b
def NumP (ids : List Int) (next : Int) : Prop := 1 ≤ next ∧ next ≤ 4611686018427387904 ∧ ids.Pairwise (· < ·) ∧ ∀ i ∈ ids, 1 ≤ i ∧ i < next
def LtC (x y : Ct) : Prop := x.a < y.a ∨ x.a = y.a ∧ (x.b < y.b ∨ x.b = y.b ∧ x.key < y.key)
structure BodiesP (B : List Bd) (nb : Int) : Prop where
  len : B.length ≤ 1024
  all : ∀ b ∈ B, BodyP b
  num : NumP (B.map (·.id)) nb
structure JointsP (B : List Bd) (J : List Jt) (nj : Int) : Prop where
  len : J.length ≤ 1024
  all : ∀ j ∈ J, JointP j ∧ j.a ∈ B.map (·.id) ∧ j.b ∈ B.map (·.id)
  num : NumP (J.map (·.id)) nj
structure ContactsP (B : List Bd) (C : List Ct) : Prop where
  all : ∀ c ∈ C, c.a < c.b ∧ 0 ≤ c.key ∧ 0 ≤ c.n ∧ c.a ∈ B.map (·.id) ∧ c.b ∈ B.map (·.id)
  up : C.Pairwise LtC
end Go.Proofs.YtfncelifflebbaaGreat.Fx

