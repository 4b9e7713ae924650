/- WoP WoA -/
import Derived.Test.YtfncelifflebbaaGreatR1
import Derived.Test.YtfncelifflebbaaGreatR4
import Derived.Deep.LoopGhost
import Derived.LoopN
import Derived.WalkMore

/- Worlds in memory: what changes but some blocks; bodies, joints and contacts as lists. -/


namespace Go.Proofs.YtfncelifflebbaaGreat.Fx
open Go.ChangeShapes Go.WideShapes Go.ChangeAt Go.RowKit
set_option linter.unusedVariables false

/-- from w to v memory has grown; only these blocks have turned, no mark has -/
structure But (X : Nat → Prop) (w v : World) : Prop where
  os : v.os = w.os
  tape : v.tape = w.tape
  output : v.output = w.output
  size : w.heap.size ≤ v.heap.size
  block : ∀ b, b < w.heap.size → ¬ X b → v.heap[b]? = w.heap[b]?
  marks : ∀ a, v.frozen? a = w.frozen? a
def Nil0 : Nat → Prop := fun _ => False
theorem But.rfl_ (X : Nat → Prop) (w : World) : But X w w := ⟨rfl, rfl, rfl, Nat.le_refl _, fun _ _ _ => rfl, fun _ => rfl⟩
theorem But.then_ {X : Nat → Prop} {a b c : World} (h : But X a b) (k : But X b c) : But X a c :=
  ⟨k.os.trans h.os, k.tape.trans h.tape, k.output.trans h.output, Nat.le_trans h.size k.size, fun i hi hx => (k.block i (Nat.lt_of_lt_of_le hi h.size) hx).trans (h.block i hi hx), fun x => (k.marks x).trans (h.marks x)⟩
theorem Made.but {X : Nat → Prop} {w v : World} (h : Made w.heap.size w v) : But X w v :=
  ⟨h.1.os, h.1.tape, h.1.output, h.1.size, fun b hb _ => h.1.block b hb, h.2⟩
theorem But.made_ {X : Nat → Prop} {B : Nat} {a w v : World} (h : Made B a w) (k : But X w v) (hB : B ≤ w.heap.size) (hX : ∀ b, X b → B ≤ b) : Made B a v := by
  refine ⟨⟨k.os.trans h.1.os, k.tape.trans h.1.tape, k.output.trans h.1.output, Nat.le_trans h.1.size k.size, fun b hb => ?_⟩, fun x => (k.marks x).trans (h.2 x)⟩
  exact (k.block b (Nat.lt_of_lt_of_le hb hB) (fun hx => by have := hX b hx; omega)).trans (h.1.block b hb)
theorem But.made {w v : World} (k : But Nil0 w v) : Made w.heap.size w v := But.made_ (Made.rfl_ _ _) k (Nat.le_refl _) (fun _ h => h.elim)
theorem But.up {X Y : Nat → Prop} {w v : World} (k : But X w v) (h : ∀ b, b < w.heap.size → X b → Y b) : But Y w v :=
  ⟨k.os, k.tape, k.output, k.size, fun b hb hy => k.block b hb (fun hx => hy (h b hb hx)), k.marks⟩
theorem But.any {X : Nat → Prop} {w v : World} (k : But Nil0 w v) : But X w v := k.up (fun _ _ h => h.elim)
theorem But.alloc {X : Nat → Prop} {a w : World} (h : But X a w) (c : Array Value) (t : TypeId) : But X a (w.alloc (.cells c t)) :=
  h.then_ (Made.but ((Made.rfl_ _ _).cells (Nat.le_refl _) c t))
theorem But.draws {X : Nat → Prop} {a w : World} (h : But X a w) (n : Nat) : But X a (w.drewN n) := h.then_ (Made.but ((Made.rfl_ _ _).draws n))
theorem But.put {X : Nat → Prop} {a w : World} (h : But X a w) {p : Addr} (hp : X p.block ∨ a.heap.size ≤ p.block) (u : Value) : But X a (w.setCell p u) := by
  have e : (w.setCell p u).heap.size = w.heap.size := by simp [World.setCell]
  refine ⟨h.os, h.tape, h.output, Nat.le_trans h.size (Nat.le_of_eq e.symm), fun b hb hx => ?_, fun x => (World.frozen?_setCell _ _ _ _).trans (h.marks x)⟩
  refine (Below.heap_setCell w p u b ?_).trans (h.block b hb hx)
  rintro rfl
  rcases hp with hp | hp
  · exact hx hp
  · omega
theorem But.cell {X : Nat → Prop} {w v : World} (h : But X w v) {p : Addr} {x : Value} (k : w.cell? p = some x) (hx : ¬ X p.block) : v.cell? p = some x :=
  (World.cell?_of_block (h.block p.block (World.block_lt_of_cell? w _ k) hx)).trans k
theorem Has.but {X : Nat → Prop} {w v : World} {g : Nat} {t : TypeId} {cs : Array Value} (h : Has w g t cs) (k : But X w v) (hx : ¬ X g) : Has v g t cs := (k.block g h.here hx).trans h
/-- these blocks do not hold it -/
def Offs (X : Nat → Prop) (ao : Option Addr) : Prop := ∀ b off s, ao = some ⟨b, off, s⟩ → ¬ X b
theorem Offs.nil (ao : Option Addr) : Offs Nil0 ao := fun _ _ _ _ h => h
section
variable {α : Type} {enc : α → List Value} {k : Nat}
theorem LsB.but {X : Nat → Prop} {w v : World} {b off : Nat} {l : List α} (h : LsB enc k w b off l) (kk : But X w v) (hx : ¬ X b) : LsB enc k v b off l := fun i x hi j u hu => kk.cell (h i x hi j u hu) hx
theorem LsT.but {X : Nat → Prop} {w v : World} {ao : Option Addr} {l : List α} (h : LsT enc k w ao l) (kk : But X w v) (hx : Offs X ao) : LsT enc k v ao l := fun hl => by
  obtain ⟨b, off, e, hb, h⟩ := h hl
  exact ⟨b, off, e, Nat.lt_of_lt_of_le hb kk.size, h.but kk (hx b off _ e)⟩
end
theorem Pts.but {X : Nat → Prop} {w v : World} {b off n : Nat} {f : Nat → Int × Int} (h : Pts w b off n f) (k : But X w v) (hx : ¬ X b) : Pts v b off n f := fun i hi => ⟨k.cell (h i hi).1 hx, k.cell (h i hi).2 hx⟩
theorem Sl.but {X : Nat → Prop} {w v : World} {ao : Option Addr} {n : Nat} {f : Cs} (h : Sl w ao n f) (k : But X w v) (hx : Offs X ao) : Sl v ao n f := fun hn => by
  obtain ⟨b, off, e, hp⟩ := h hn
  exact ⟨b, off, e, hp.but k (hx b off _ e)⟩

/-! ### bodies, joints, contacts -/
structure Bd where
  id : Int
  x : Int
  y : Int
  vx : Int
  vy : Int
  an : Int
  sp : Int
  de : Int
  k : Int
  r : Int
  ao : Option Addr
  n : Nat
  c : Nat
  f : Cs
structure Jt where
  id : Int
  a : Int
  b : Int
  ax : Int
  ay : Int
  tx : Int
  ty : Int
  ln : Int
structure Ct where
  a : Int
  b : Int
  key : Int
  n : Int
  t : Int
abbrev bdV (b : Bd) : Value := bodyV b.id b.x b.y b.vx b.vy b.an b.sp b.de b.k b.r (.slice b.ao b.n b.c)
abbrev jtV (j : Jt) : Value := .agg #[.int .i64 j.id, .int .i64 j.a, .int .i64 j.b, .int .i64 j.ax, .int .i64 j.ay, .int .i64 j.tx, .int .i64 j.ty, .int .i64 j.ln]
abbrev ctV (c : Ct) : Value := .agg #[.int .i64 c.a, .int .i64 c.b, .int .i64 c.key, .int .i64 c.n, .int .i64 c.t]
def encB (b : Bd) : List Value := [.int .i64 b.id, .int .i64 b.x, .int .i64 b.y, .int .i64 b.vx, .int .i64 b.vy, .int .i64 b.an, .int .i64 b.sp, .int .i64 b.de, .int .i64 b.k, .int .i64 b.r, .slice b.ao b.n b.c]
def encJ (j : Jt) : List Value := [.int .i64 j.id, .int .i64 j.a, .int .i64 j.b, .int .i64 j.ax, .int .i64 j.ay, .int .i64 j.tx, .int .i64 j.ty, .int .i64 j.ln]
def encC (c : Ct) : List Value := [.int .i64 c.a, .int .i64 c.b, .int .i64 c.key, .int .i64 c.n, .int .i64 c.t]
theorem encB_len (b : Bd) : (encB b).length = 11 := rfl
theorem encJ_len (j : Jt) : (encJ j).length = 8 := rfl
theorem encC_len (c : Ct) : (encC c).length = 5 := rfl
theorem encB_one (x : Bd) : ∀ v ∈ encB x, v.oneCell' = true := by
  intro v hv; simp [encB] at hv; rcases hv with rfl | rfl | rfl | rfl | rfl | rfl | rfl | rfl | rfl | rfl | rfl <;> rfl
theorem encJ_one (x : Jt) : ∀ v ∈ encJ x, v.oneCell' = true := by
  intro v hv; simp [encJ] at hv; rcases hv with rfl | rfl | rfl | rfl | rfl | rfl | rfl | rfl <;> rfl
theorem encC_one (x : Ct) : ∀ v ∈ encC x, v.oneCell' = true := by
  intro v hv; simp [encC] at hv; rcases hv with rfl | rfl | rfl | rfl | rfl <;> rfl
theorem ElT.b11 {w : World} {b o : Nat} {x : Bd} (h : ElT encB w b o x) : w.cell? ⟨b, o, none⟩ = some (.int .i64 x.id) ∧ w.cell? ⟨b, o + 1, none⟩ = some (.int .i64 x.x) ∧ w.cell? ⟨b, o + 2, none⟩ = some (.int .i64 x.y) ∧ w.cell? ⟨b, o + 3, none⟩ = some (.int .i64 x.vx) ∧ w.cell? ⟨b, o + 4, none⟩ = some (.int .i64 x.vy) ∧ w.cell? ⟨b, o + 5, none⟩ = some (.int .i64 x.an) ∧ w.cell? ⟨b, o + 6, none⟩ = some (.int .i64 x.sp) ∧ w.cell? ⟨b, o + 7, none⟩ = some (.int .i64 x.de) ∧ w.cell? ⟨b, o + 8, none⟩ = some (.int .i64 x.k) ∧ w.cell? ⟨b, o + 9, none⟩ = some (.int .i64 x.r) ∧ w.cell? ⟨b, o + 10, none⟩ = some (.slice x.ao x.n x.c) :=
  ⟨h 0 _ rfl, h 1 _ rfl, h 2 _ rfl, h 3 _ rfl, h 4 _ rfl, h 5 _ rfl, h 6 _ rfl, h 7 _ rfl, h 8 _ rfl, h 9 _ rfl, h 10 _ rfl⟩
theorem ElT.j8 {w : World} {b o : Nat} {x : Jt} (h : ElT encJ w b o x) : w.cell? ⟨b, o, none⟩ = some (.int .i64 x.id) ∧ w.cell? ⟨b, o + 1, none⟩ = some (.int .i64 x.a) ∧ w.cell? ⟨b, o + 2, none⟩ = some (.int .i64 x.b) ∧ w.cell? ⟨b, o + 3, none⟩ = some (.int .i64 x.ax) ∧ w.cell? ⟨b, o + 4, none⟩ = some (.int .i64 x.ay) ∧ w.cell? ⟨b, o + 5, none⟩ = some (.int .i64 x.tx) ∧ w.cell? ⟨b, o + 6, none⟩ = some (.int .i64 x.ty) ∧ w.cell? ⟨b, o + 7, none⟩ = some (.int .i64 x.ln) :=
  ⟨h 0 _ rfl, h 1 _ rfl, h 2 _ rfl, h 3 _ rfl, h 4 _ rfl, h 5 _ rfl, h 6 _ rfl, h 7 _ rfl⟩
theorem ElT.c5 {w : World} {b o : Nat} {x : Ct} (h : ElT encC w b o x) : w.cell? ⟨b, o, none⟩ = some (.int .i64 x.a) ∧ w.cell? ⟨b, o + 1, none⟩ = some (.int .i64 x.b) ∧ w.cell? ⟨b, o + 2, none⟩ = some (.int .i64 x.key) ∧ w.cell? ⟨b, o + 3, none⟩ = some (.int .i64 x.n) ∧ w.cell? ⟨b, o + 4, none⟩ = some (.int .i64 x.t) :=
  ⟨h 0 _ rfl, h 1 _ rfl, h 2 _ rfl, h 3 _ rfl, h 4 _ rfl⟩
/-- its numbers are numbers -/
structure BdI (b : Bd) : Prop where
  id : I64 b.id
  x : I64 b.x
  y : I64 b.y
  vx : I64 b.vx
  vy : I64 b.vy
  an : I64 b.an
  sp : I64 b.sp
  de : I64 b.de
  k : I64 b.k
  r : I64 b.r
  f : Cin b.f b.n
def JtI (j : Jt) : Prop := I64 j.id ∧ I64 j.a ∧ I64 j.b ∧ I64 j.ax ∧ I64 j.ay ∧ I64 j.tx ∧ I64 j.ty ∧ I64 j.ln
def CtI (c : Ct) : Prop := I64 c.a ∧ I64 c.b ∧ I64 c.key ∧ I64 c.n ∧ I64 c.t
/-! ### what may be, by the document -/
def Inn (a m : Int) : Prop := -m ≤ a ∧ a ≤ m
structure BodyP (b : Bd) : Prop where
  shape : RightP b.k b.r b.n b.f
  x : Inn b.x 4503599627370496
  y : Inn b.y 4503599627370496
  vx : Inn b.vx 17592186044416
  vy : Inn b.vy 17592186044416
  sp : Inn b.sp 1099511627776
  an : 0 ≤ b.an ∧ b.an ≤ 4294967295
  de : 0 ≤ b.de ∧ b.de ≤ 4398046511104
  still : b.de = 0 → b.vx = 0 ∧ b.vy = 0 ∧ b.sp = 0
structure JointP (j : Jt) : Prop where
  ax : Inn j.ax 274877906944
  ay : Inn j.ay 274877906944
  tx : Inn j.tx 274877906944
  ty : Inn j.ty 274877906944
  ln : 0 ≤ j.ln ∧ j.ln ≤ 4503599627370496
  a : 1 ≤ j.a
  b : 1 ≤ j.b
  ab : j.a ≠ j.b
/-- numbers in order, from one up, below the next -/
def NumP (ids : List Int) (next : Int) : Prop := 1 ≤ next ∧ next ≤ 4611686018427387904 ∧ ids.Pairwise (· < ·) ∧ ∀ i ∈ ids, 1 ≤ i ∧ i < next
/-- contacts compared -/
def LtC (x y : Ct) : Prop := x.a < y.a ∨ x.a = y.a ∧ (x.b < y.b ∨ x.b = y.b ∧ x.key < y.key)
structure BodiesP (B : List Bd) (nb : Int) : Prop where
  len : B.length ≤ 1024
  all : ∀ b ∈ B, BodyP b
  num : NumP (B.map (·.id)) nb
structure JointsP (B : List Bd) (J : List Jt) (nj : Int) : Prop where
  len : J.length ≤ 1024
  all : ∀ j ∈ J, JointP j ∧ j.a ∈ B.map (·.id) ∧ j.b ∈ B.map (·.id)
  num : NumP (J.map (·.id)) nj
structure ContactsP (B : List Bd) (C : List Ct) : Prop where
  all : ∀ c ∈ C, c.a < c.b ∧ 0 ≤ c.key ∧ 0 ≤ c.n ∧ c.a ∈ B.map (·.id) ∧ c.b ∈ B.map (·.id)
  up : C.Pairwise LtC
end Go.Proofs.YtfncelifflebbaaGreat.Fx


/- Package world: what may be, a body and a joint by itself; numbers compared. -/




namespace Go.Proofs.YtfncelifflebbaaGreat.Fx
open Go.ChangeShapes Go.WideShapes Go.ChangeAt Go.RowKit
set_option linter.unusedVariables false

theorem bring_inn {a lo hi : Int} (ha : I64 a) (h0 : -9223372036854775807 ≤ lo) (h1 : lo ≤ hi) (h2 : hi ≤ 9223372036854775807) : (a == bringF a lo hi) = true ↔ lo ≤ a ∧ a ≤ hi := by
  unfold I64 at ha
  unfold bringF cl
  simp only [beq_iff_eq]
  (repeat' split) <;> omega
theorem veql (a b c d : Int) (r : Bool) (hr : r = true ↔ a = c ∧ b = d) (w : World) : (binOp .eql 24 (vecV a b) (vecV c d)).run Tryz.prog w = .ok (.bool r) w := by
  by_cases h1 : a = c
  · by_cases h2 : b = d
    · have e : r = true := hr.2 ⟨h1, h2⟩
      subst h1; subst h2; subst e
      go_simp
    · have e : r = false := Bool.eq_false_iff.2 fun h => h2 (hr.1 h).2
      have hy : (b == d) = false := by simpa using h2
      subst h1; subst e
      go_simp
  · have e : r = false := Bool.eq_false_iff.2 fun h => h1 (hr.1 h).1
    have hx : (a == c) = false := by simpa using h1
    subst e
    go_simp
set_option maxRecDepth 100000 in
set_option maxHeartbeats 1000000 in
theorem lies_c (a lo hi : Int) (r : Bool) (w : World) (ha : I64 a) (h0 : -9223372036854775807 ≤ lo) (h1 : lo ≤ hi) (h2 : hi ≤ 9223372036854775807) (hr : r = true ↔ lo ≤ a ∧ a ≤ hi) :
    Calls Tryz.prog 79 #[.int .i64 a, .int .i64 lo, .int .i64 hi] w fun e w' => e = .returned (.bool r) ∧ Made w.heap.size w w' := by
  obtain ⟨z, ez⟩ : ∃ z, bringF a lo hi = z := ⟨_, rfl⟩
  have HR : Hid ((a == z) = r) := by
    unfold Hid
    rw [Bool.eq_iff_iff, hr, ← ez]
    exact bring_inn ha h0 h1 h2
  have EZ := hid ez
  have il : I64 lo := by unfold I64; omega
  have ih : I64 hi := by unfold I64; omega
  clear hr ez h0 h1 h2
  go_enter Tryz.func79, Tryz.ntmps79
  go_wp2_with fail
  refine (bring_is _ _ _ _ _ ha il ih EZ.out).mono ?_
  rintro e w' ⟨rfl, rfl⟩
  have hq := HR.out
  go_wp2_with fail
  go_ret
  exact ⟨rfl, Made.rfl_ _ _⟩
set_option maxRecDepth 100000 in
set_option maxHeartbeats 1000000 in
theorem within_c (a b m : Int) (r : Bool) (w : World) (ha : I64 a) (hb : I64 b) (h0 : 0 ≤ m) (h1 : m ≤ 4611686018427387904) (hr : r = true ↔ Inn a m ∧ Inn b m) :
    Calls Tryz.prog 71 #[vecV a b, .int .i64 m] w fun e w' => e = .returned (.bool r) ∧ Made w.heap.size w w' := by
  obtain ⟨x, ex⟩ : ∃ z, bringF a (-m) m = z := ⟨_, rfl⟩
  obtain ⟨y, ey⟩ : ∃ z, bringF b (-m) m = z := ⟨_, rfl⟩
  have q := veql a b x y r (by
    rw [hr, ← ex, ← ey]
    have A := bring_inn ha (lo := -m) (hi := m) (by omega) (by omega) (by omega)
    have B := bring_inn hb (lo := -m) (hi := m) (by omega) (by omega) (by omega)
    simp only [beq_iff_eq] at A B
    exact ⟨fun h => ⟨A.2 h.1, B.2 h.2⟩, fun h => ⟨A.1 h.1, B.1 h.2⟩⟩)
  have EX := hid ex
  have EY := hid ey
  have im : I64 m := by unfold I64; omega
  have il : I64 (-m) := by unfold I64; omega
  obtain ⟨nm, en⟩ : ∃ z, -m = z := ⟨_, rfl⟩
  have hneg : IntKind.i64.wrap (-m) = nm := by rw [← en]; simp [IntKind.wrap, IntKind.bits, IntKind.signed]; omega
  rw [en] at EX EY il
  clear hr ex ey en
  go_enter Tryz.func71, Tryz.ntmps71
  go_wp2_with fail
  refine reg_made (by kernel_rfl) (by kernel_rfl) ?_
  intro T hT fw hf
  have x0 := Class.reads hf (p := ⟨w.heap.size, 0, none⟩) (u := .int .i64 a) (by go_simp)
  have x1 := Class.reads hf (p := ⟨w.heap.size, 1, none⟩) (u := .int .i64 b) (by go_simp)
  repeat (go_big_quiet_step ((first
    | (go_at_call 26; with_reducible exact hf.same (bring_is _ _ _ _ _ ha il im EX.out))
    | (go_at_call 26; with_reducible exact hf.same (bring_is _ _ _ _ _ hb il im EY.out)))))
  refine wpQuiet_nil ?_
  intro w3 h3
  have k3 := hf.here h3
  go_wp2_with fail
  go_ret
  exact ⟨rfl, made_box k3⟩
set_option maxRecDepth 100000 in
set_option maxHeartbeats 2000000 in
theorem still_c (i x y vx vy an sp d K R : Int) (ao : Option Addr) (n c : Nat) (r : Bool) (w : World) (hr : r = true ↔ vx = 0 ∧ vy = 0 ∧ sp = 0) :
    Calls Tryz.prog 80 #[bodyV i x y vx vy an sp d K R (.slice ao n c)] w fun e w' => e = .returned (.bool r) ∧ Made w.heap.size w w' := by
  by_cases h : vx = 0 ∧ vy = 0
  · have q := veql vx vy 0 0 true ⟨fun _ => h, fun _ => rfl⟩
    have HR : Hid ((sp == 0) = r) := by
      unfold Hid; rw [Bool.eq_iff_iff, hr]; simp only [beq_iff_eq]; exact ⟨fun e => ⟨h.1, h.2, e⟩, fun e => e.2.2⟩
    clear hr h
    go_enter Tryz.func80, Tryz.ntmps80
    go_wp2_with fail
    go_ret
    exact ⟨by rw [← HR.out]; rfl, (Made.rfl_ _ _).cells (Nat.le_refl _) _ _⟩
  · have q := veql vx vy 0 0 false ⟨fun e => (by cases e), fun e => absurd e h⟩
    have HR : Hid (r = false) := Bool.eq_false_iff.2 fun e => h ⟨(hr.1 e).1, (hr.1 e).2.1⟩
    clear hr h
    go_enter Tryz.func80, Tryz.ntmps80
    go_wp2_with fail
    go_ret
    exact ⟨by rw [HR.out]; rfl, (Made.rfl_ _ _).cells (Nat.le_refl _) _ _⟩
/-- a Bool for a proposition -/
theorem a_bool (P : Prop) : ∃ r : Bool, r = true ↔ P := by
  by_cases h : P
  · exact ⟨true, ⟨fun _ => h, fun _ => rfl⟩⟩
  · exact ⟨false, ⟨fun e => (by cases e), fun e => absurd e h⟩⟩
set_option maxRecDepth 100000 in
set_option maxHeartbeats 8000000 in
theorem rbody_c (i x y vx vy an sp d K R : Int) (ao : Option Addr) (n c : Nat) (f : Cs) (r : Bool) (w : World) (hs : Sl w ao n f) (hi : BdI ⟨i, x, y, vx, vy, an, sp, d, K, R, ao, n, c, f⟩) (hr : r = true ↔ BodyP ⟨i, x, y, vx, vy, an, sp, d, K, R, ao, n, c, f⟩) :
    Calls Tryz.prog 37 #[bodyV i x y vx vy an sp d K R (.slice ao n c)] w fun e w' => e = .returned (.bool r) ∧ Made w.heap.size w w' := by
  obtain ⟨c0, h0⟩ := a_bool (RightP K R n f)
  obtain ⟨c1, h1⟩ := a_bool (Inn x 4503599627370496 ∧ Inn y 4503599627370496)
  obtain ⟨c2, h2⟩ := a_bool (Inn vx 17592186044416 ∧ Inn vy 17592186044416)
  obtain ⟨c3, h3⟩ := a_bool (-1099511627776 ≤ sp ∧ sp ≤ 1099511627776)
  obtain ⟨c4, h4⟩ := a_bool (0 ≤ an ∧ an ≤ 4294967295)
  obtain ⟨c5, h5⟩ := a_bool (0 ≤ d ∧ d ≤ 4398046511104)
  obtain ⟨c6, h6⟩ := a_bool (vx = 0 ∧ vy = 0 ∧ sp = 0)
  have H0 := hid h0
  have H1 := hid h1
  have H2 := hid h2
  have H3 := hid h3
  have H4 := hid h4
  have H5 := hid h5
  have H6 := hid h6
  have HR : Hid (r = true ↔ (((((c0 = true ∧ c1 = true) ∧ c2 = true) ∧ c3 = true) ∧ c4 = true) ∧ c5 = true) ∧ (d = 0 → c6 = true)) := by
    unfold Hid
    rw [hr, h0, h1, h2, h3, h4, h5, h6]
    constructor
    · intro h; exact ⟨⟨⟨⟨⟨⟨h.shape, h.x, h.y⟩, h.vx, h.vy⟩, h.sp⟩, h.an⟩, h.de⟩, h.still⟩
    · rintro ⟨⟨⟨⟨⟨⟨a0, a1, a2⟩, a3, a4⟩, a5⟩, a6⟩, a7⟩, a8⟩; exact ⟨a0, a1, a2, a3, a4, a5, a6, a7, a8⟩
  have HS : Hid (∀ v, Made w.heap.size w v → Sl v ao n f) := fun v k hn => by
    obtain ⟨b, off, e, hp⟩ := hs hn
    exact ⟨b, off, e, hp.kept k⟩
  have HI := hid hi
  clear h0 h1 h2 h3 h4 h5 h6 hr hs hi
  obtain ⟨W, eW⟩ : ∃ W, W = w.alloc (.cells #[.int .i64 i, .int .i64 x, .int .i64 y, .int .i64 vx, .int .i64 vy, .int .i64 an, .int .i64 sp, .int .i64 d, .int .i64 K, .int .i64 R, .slice ao n c] 35) := ⟨_, rfl⟩
  have KK : Hid (Made w.heap.size w W) := by unfold Hid; rw [eW]; exact (Made.rfl_ _ _).cells (Nat.le_refl _) _ _
  have HB : Hid (Has W w.heap.size 35 #[.int .i64 i, .int .i64 x, .int .i64 y, .int .i64 vx, .int .i64 vy, .int .i64 an, .int .i64 sp, .int .i64 d, .int .i64 K, .int .i64 R, .slice ao n c]) := by unfold Hid; rw [eW]; exact has_new _ _ _
  obtain ⟨g0, eg⟩ : ∃ g, w.heap.size = g := ⟨_, rfl⟩
  have e2 : w.heap.size = g0 := eg
  go_enter Tryz.func37, Tryz.ntmps37
  rw [eg] at HB
  have b0 := HB.out.at_ 0
  have b1 := HB.out.at_ 1
  have b2 := HB.out.at_ 2
  have b3 := HB.out.at_ 3
  have b4 := HB.out.at_ 4
  have b5 := HB.out.at_ 5
  have b6 := HB.out.at_ 6
  have b7 := HB.out.at_ 7
  have b8 := HB.out.at_ 8
  have b9 := HB.out.at_ 9
  have b10 := HB.out.at_ 10
  simp at b0 b1 b2 b3 b4 b5 b6 b7 b8 b9 b10
  have lt0 : g0 < W.heap.size := HB.out.here
  go_upto_region 1 with fail
  rw [← eW]
  clear eW
  try rw [eg]
  go_wp2_with fail
  refine (right_is K R ao n c f _ (HS.out _ KK.out) HI.out.f c0 H0.out).mono ?_
  rintro e w1 ⟨rfl, k⟩
  have K1 : Hid (Made w.heap.size w w1) := KK.out.then_ (k.low KK.out.1.size)
  have HB1 := hid (HB.out.stays k HB.out.here)
  clear k b0 b1 b2 b3 b4 b5 b6 b7 b8 b9 b10
  cases c0 with
  | false =>
    have hF : Hid (r = false) := Bool.eq_false_iff.2 fun e => by have := HR.out.1 e; simp at this
    go_wp2_with fail
    go_ret
    exact ⟨by rw [hF.out]; rfl, K1.out⟩
  | true =>
    have b0 := HB1.out.at_ 0
    have b1 := HB1.out.at_ 1
    have b2 := HB1.out.at_ 2
    have b3 := HB1.out.at_ 3
    have b4 := HB1.out.at_ 4
    have b5 := HB1.out.at_ 5
    have b6 := HB1.out.at_ 6
    have b7 := HB1.out.at_ 7
    have b8 := HB1.out.at_ 8
    have b9 := HB1.out.at_ 9
    have b10 := HB1.out.at_ 10
    simp at b0 b1 b2 b3 b4 b5 b6 b7 b8 b9 b10
    go_wp2_with fail
    refine (within_c x y 4503599627370496 c1 _ HI.out.x HI.out.y (by omega) (by omega) H1.out).mono ?_
    rintro e w2 ⟨rfl, k⟩
    have K2 : Hid (Made w.heap.size w w2) := K1.out.then_ (k.low K1.out.1.size)
    have HB2 := hid (HB1.out.stays k HB1.out.here)
    clear k b0 b1 b2 b3 b4 b5 b6 b7 b8 b9 b10
    cases c1 with
    | false =>
      have hF : Hid (r = false) := Bool.eq_false_iff.2 fun e => by have := HR.out.1 e; simp at this
      go_wp2_with fail
      go_ret
      exact ⟨by rw [hF.out]; rfl, K2.out⟩
    | true =>
      have b0 := HB2.out.at_ 0
      have b1 := HB2.out.at_ 1
      have b2 := HB2.out.at_ 2
      have b3 := HB2.out.at_ 3
      have b4 := HB2.out.at_ 4
      have b5 := HB2.out.at_ 5
      have b6 := HB2.out.at_ 6
      have b7 := HB2.out.at_ 7
      have b8 := HB2.out.at_ 8
      have b9 := HB2.out.at_ 9
      have b10 := HB2.out.at_ 10
      simp at b0 b1 b2 b3 b4 b5 b6 b7 b8 b9 b10
      go_wp2_with fail
      refine (within_c vx vy 17592186044416 c2 _ HI.out.vx HI.out.vy (by omega) (by omega) H2.out).mono ?_
      rintro e w3 ⟨rfl, k⟩
      have K3 : Hid (Made w.heap.size w w3) := K2.out.then_ (k.low K2.out.1.size)
      have HB3 := hid (HB2.out.stays k HB2.out.here)
      clear k b0 b1 b2 b3 b4 b5 b6 b7 b8 b9 b10
      cases c2 with
      | false =>
        have hF : Hid (r = false) := Bool.eq_false_iff.2 fun e => by have := HR.out.1 e; simp at this
        go_wp2_with fail
        go_ret
        exact ⟨by rw [hF.out]; rfl, K3.out⟩
      | true =>
        have b0 := HB3.out.at_ 0
        have b1 := HB3.out.at_ 1
        have b2 := HB3.out.at_ 2
        have b3 := HB3.out.at_ 3
        have b4 := HB3.out.at_ 4
        have b5 := HB3.out.at_ 5
        have b6 := HB3.out.at_ 6
        have b7 := HB3.out.at_ 7
        have b8 := HB3.out.at_ 8
        have b9 := HB3.out.at_ 9
        have b10 := HB3.out.at_ 10
        simp at b0 b1 b2 b3 b4 b5 b6 b7 b8 b9 b10
        go_wp2_with fail
        refine (lies_c sp (-1099511627776) 1099511627776 c3 _ HI.out.sp (by omega) (by omega) (by omega) H3.out).mono ?_
        rintro e w4 ⟨rfl, k⟩
        have K4 : Hid (Made w.heap.size w w4) := K3.out.then_ (k.low K3.out.1.size)
        have HB4 := hid (HB3.out.stays k HB3.out.here)
        clear k b0 b1 b2 b3 b4 b5 b6 b7 b8 b9 b10
        cases c3 with
        | false =>
          have hF : Hid (r = false) := Bool.eq_false_iff.2 fun e => by have := HR.out.1 e; simp at this
          go_wp2_with fail
          go_ret
          exact ⟨by rw [hF.out]; rfl, K4.out⟩
        | true =>
          have b0 := HB4.out.at_ 0
          have b1 := HB4.out.at_ 1
          have b2 := HB4.out.at_ 2
          have b3 := HB4.out.at_ 3
          have b4 := HB4.out.at_ 4
          have b5 := HB4.out.at_ 5
          have b6 := HB4.out.at_ 6
          have b7 := HB4.out.at_ 7
          have b8 := HB4.out.at_ 8
          have b9 := HB4.out.at_ 9
          have b10 := HB4.out.at_ 10
          simp at b0 b1 b2 b3 b4 b5 b6 b7 b8 b9 b10
          go_wp2_with fail
          refine (lies_c an 0 4294967295 c4 _ HI.out.an (by omega) (by omega) (by omega) H4.out).mono ?_
          rintro e w5 ⟨rfl, k⟩
          have K5 : Hid (Made w.heap.size w w5) := K4.out.then_ (k.low K4.out.1.size)
          have HB5 := hid (HB4.out.stays k HB4.out.here)
          clear k b0 b1 b2 b3 b4 b5 b6 b7 b8 b9 b10
          cases c4 with
          | false =>
            have hF : Hid (r = false) := Bool.eq_false_iff.2 fun e => by have := HR.out.1 e; simp at this
            go_wp2_with fail
            go_ret
            exact ⟨by rw [hF.out]; rfl, K5.out⟩
          | true =>
            have b0 := HB5.out.at_ 0
            have b1 := HB5.out.at_ 1
            have b2 := HB5.out.at_ 2
            have b3 := HB5.out.at_ 3
            have b4 := HB5.out.at_ 4
            have b5 := HB5.out.at_ 5
            have b6 := HB5.out.at_ 6
            have b7 := HB5.out.at_ 7
            have b8 := HB5.out.at_ 8
            have b9 := HB5.out.at_ 9
            have b10 := HB5.out.at_ 10
            simp at b0 b1 b2 b3 b4 b5 b6 b7 b8 b9 b10
            go_wp2_with fail
            refine (lies_c d 0 4398046511104 c5 _ HI.out.de (by omega) (by omega) (by omega) H5.out).mono ?_
            rintro e w6 ⟨rfl, k⟩
            have K6 : Hid (Made w.heap.size w w6) := K5.out.then_ (k.low K5.out.1.size)
            have HB6 := hid (HB5.out.stays k HB5.out.here)
            clear k b0 b1 b2 b3 b4 b5 b6 b7 b8 b9 b10
            cases c5 with
            | false =>
              have hF : Hid (r = false) := Bool.eq_false_iff.2 fun e => by have := HR.out.1 e; simp at this
              go_wp2_with fail
              go_ret
              exact ⟨by rw [hF.out]; rfl, K6.out⟩
            | true =>
              have b0 := HB6.out.at_ 0
              have b1 := HB6.out.at_ 1
              have b2 := HB6.out.at_ 2
              have b3 := HB6.out.at_ 3
              have b4 := HB6.out.at_ 4
              have b5 := HB6.out.at_ 5
              have b6 := HB6.out.at_ 6
              have b7 := HB6.out.at_ 7
              have b8 := HB6.out.at_ 8
              have b9 := HB6.out.at_ 9
              have b10 := HB6.out.at_ 10
              simp at b0 b1 b2 b3 b4 b5 b6 b7 b8 b9 b10
              by_cases hd : d = 0
              · have HR2 : Hid (r = c6) := by
                  unfold Hid; rw [Bool.eq_iff_iff, HR.out]; simp [hd]
                have e0 : (d != 0) = false := by simp [hd]
                clear hd
                go_wp2_with fail
                refine (still_c i x y vx vy an sp d K R ao n c c6 _ H6.out).mono ?_
                rintro e w7 ⟨rfl, k⟩
                have K7 : Hid (Made w.heap.size w w7) := K6.out.then_ (k.low K6.out.1.size)
                clear k b0 b1 b2 b3 b4 b5 b6 b7 b8 b9 b10
                go_wp2_with fail
                go_ret
                exact ⟨by rw [HR2.out]; rfl, K7.out⟩
              · have hT : Hid (r = true) := HR.out.2 ⟨by simp, fun e => absurd e hd⟩
                have e0 : (d != 0) = true := by simpa using hd
                clear hd
                go_wp2_with fail
                go_ret
                exact ⟨by rw [hT.out]; rfl, K6.out⟩
set_option maxRecDepth 100000 in
set_option maxHeartbeats 8000000 in
theorem rjoint_c (j : Jt) (r : Bool) (w : World) (hi : JtI j) (hr : r = true ↔ JointP j) :
    Calls Tryz.prog 39 #[jtV j] w fun e w' => e = .returned (.bool r) ∧ Made w.heap.size w w' := by
  obtain ⟨id, a, b, ax, ay, tx, ty, ln⟩ := j
  obtain ⟨c0, h0⟩ := a_bool (Inn ax 274877906944 ∧ Inn ay 274877906944)
  obtain ⟨c1, h1⟩ := a_bool (Inn tx 274877906944 ∧ Inn ty 274877906944)
  obtain ⟨c2, h2⟩ := a_bool (0 ≤ ln ∧ ln ≤ 4503599627370496)
  have H0 := hid h0
  have H1 := hid h1
  have H2 := hid h2
  have HR : Hid (r = true ↔ ((((c0 = true ∧ c1 = true) ∧ c2 = true) ∧ 1 ≤ a) ∧ 1 ≤ b) ∧ a ≠ b) := by
    unfold Hid
    rw [hr, h0, h1, h2]
    constructor
    · intro h; exact ⟨⟨⟨⟨⟨⟨h.ax, h.ay⟩, h.tx, h.ty⟩, h.ln⟩, h.a⟩, h.b⟩, h.ab⟩
    · rintro ⟨⟨⟨⟨⟨⟨a0, a1⟩, a2, a3⟩, a4⟩, a5⟩, a6⟩, a7⟩; exact ⟨a0, a1, a2, a3, a4, a5, a6, a7⟩
  obtain ⟨i0, i1, i2, i3, i4, i5, i6, i7⟩ := hi
  simp only [] at i0 i1 i2 i3 i4 i5 i6 i7
  clear h0 h1 h2 hr
  obtain ⟨W, eW⟩ : ∃ W, W = w.alloc (.cells #[.int .i64 id, .int .i64 a, .int .i64 b, .int .i64 ax, .int .i64 ay, .int .i64 tx, .int .i64 ty, .int .i64 ln] 60) := ⟨_, rfl⟩
  have KK : Hid (Made w.heap.size w W) := by unfold Hid; rw [eW]; exact (Made.rfl_ _ _).cells (Nat.le_refl _) _ _
  have HB : Hid (Has W w.heap.size 60 #[.int .i64 id, .int .i64 a, .int .i64 b, .int .i64 ax, .int .i64 ay, .int .i64 tx, .int .i64 ty, .int .i64 ln]) := by unfold Hid; rw [eW]; exact has_new _ _ _
  obtain ⟨g0, eg⟩ : ∃ g, w.heap.size = g := ⟨_, rfl⟩
  go_enter Tryz.func39, Tryz.ntmps39
  rw [eg] at HB
  have b0 := HB.out.at_ 0
  have b1 := HB.out.at_ 1
  have b2 := HB.out.at_ 2
  have b3 := HB.out.at_ 3
  have b4 := HB.out.at_ 4
  have b5 := HB.out.at_ 5
  have b6 := HB.out.at_ 6
  have b7 := HB.out.at_ 7
  simp at b0 b1 b2 b3 b4 b5 b6 b7
  have lt0 : g0 < W.heap.size := HB.out.here
  go_upto_region 1 with fail
  rw [← eW]
  clear eW
  try rw [eg]
  go_wp2_with fail
  refine (within_c ax ay 274877906944 c0 _ i3 i4 (by omega) (by omega) H0.out).mono ?_
  rintro e w1 ⟨rfl, k⟩
  have K1 : Hid (Made w.heap.size w w1) := KK.out.then_ (k.low KK.out.1.size)
  have HB1 := hid (HB.out.stays k HB.out.here)
  clear k b0 b1 b2 b3 b4 b5 b6 b7
  cases c0 with
  | false =>
    have hF : Hid (r = false) := Bool.eq_false_iff.2 fun e => by have := HR.out.1 e; simp at this
    go_wp2_with fail
    go_ret
    exact ⟨by rw [hF.out]; rfl, K1.out⟩
  | true =>
    have b0 := HB1.out.at_ 0
    have b1 := HB1.out.at_ 1
    have b2 := HB1.out.at_ 2
    have b3 := HB1.out.at_ 3
    have b4 := HB1.out.at_ 4
    have b5 := HB1.out.at_ 5
    have b6 := HB1.out.at_ 6
    have b7 := HB1.out.at_ 7
    simp at b0 b1 b2 b3 b4 b5 b6 b7
    go_wp2_with fail
    refine (within_c tx ty 274877906944 c1 _ i5 i6 (by omega) (by omega) H1.out).mono ?_
    rintro e w2 ⟨rfl, k⟩
    have K2 : Hid (Made w.heap.size w w2) := K1.out.then_ (k.low K1.out.1.size)
    have HB2 := hid (HB1.out.stays k HB1.out.here)
    clear k b0 b1 b2 b3 b4 b5 b6 b7
    cases c1 with
    | false =>
      have hF : Hid (r = false) := Bool.eq_false_iff.2 fun e => by have := HR.out.1 e; simp at this
      go_wp2_with fail
      go_ret
      exact ⟨by rw [hF.out]; rfl, K2.out⟩
    | true =>
      have b0 := HB2.out.at_ 0
      have b1 := HB2.out.at_ 1
      have b2 := HB2.out.at_ 2
      have b3 := HB2.out.at_ 3
      have b4 := HB2.out.at_ 4
      have b5 := HB2.out.at_ 5
      have b6 := HB2.out.at_ 6
      have b7 := HB2.out.at_ 7
      simp at b0 b1 b2 b3 b4 b5 b6 b7
      go_wp2_with fail
      refine (lies_c ln 0 4503599627370496 c2 _ i7 (by omega) (by omega) (by omega) H2.out).mono ?_
      rintro e w3 ⟨rfl, k⟩
      have K3 : Hid (Made w.heap.size w w3) := K2.out.then_ (k.low K2.out.1.size)
      have HB3 := hid (HB2.out.stays k HB2.out.here)
      clear k b0 b1 b2 b3 b4 b5 b6 b7
      cases c2 with
      | false =>
        have hF : Hid (r = false) := Bool.eq_false_iff.2 fun e => by have := HR.out.1 e; simp at this
        go_wp2_with fail
        go_ret
        exact ⟨by rw [hF.out]; rfl, K3.out⟩
      | true =>
        have b0 := HB3.out.at_ 0
        have b1 := HB3.out.at_ 1
        have b2 := HB3.out.at_ 2
        have b3 := HB3.out.at_ 3
        have b4 := HB3.out.at_ 4
        have b5 := HB3.out.at_ 5
        have b6 := HB3.out.at_ 6
        have b7 := HB3.out.at_ 7
        simp at b0 b1 b2 b3 b4 b5 b6 b7
        by_cases ha : 1 ≤ a
        · by_cases hb : 1 ≤ b
          · have HR2 : Hid (r = (a != b)) := by
              unfold Hid; rw [Bool.eq_iff_iff, HR.out]; simp [ha, hb]
            go_wp2_with fail
            go_ret
            exact ⟨by rw [HR2.out]; rfl, K3.out⟩
          · have hF : Hid (r = false) := Bool.eq_false_iff.2 fun e => hb (HR.out.1 e).1.2
            go_wp2_with fail
            go_ret
            exact ⟨by rw [hF.out]; rfl, eg ▸ K3.out⟩
        · have hF : Hid (r = false) := Bool.eq_false_iff.2 fun e => ha (HR.out.1 e).1.1.2
          go_wp2_with fail
          go_ret
          exact ⟨by rw [hF.out]; rfl, eg ▸ K3.out⟩
def cmpG (a b : Int) : Int := if a < b then -1 else if b < a then 1 else 0
theorem cmpG_neg (a b : Int) : cmpG a b < 0 ↔ a < b := by unfold cmpG; (repeat' split) <;> omega
theorem cmpG_pos (a b : Int) : 0 < cmpG a b ↔ b < a := by unfold cmpG; (repeat' split) <;> omega
theorem cmpG_zero (a b : Int) : cmpG a b = 0 ↔ a = b := by unfold cmpG; (repeat' split) <;> omega
set_option maxRecDepth 100000 in
set_option maxHeartbeats 1000000 in
theorem nanW_c (a : Int) (w : World) : Calls Tryz.prog 126 #[.int .i64 a] w fun e w' => e = .returned (.bool false) ∧ w' = w := by
  go_enter Tryz.func126, Tryz.ntmps126
  go_wp2_with fail
  go_ret
  exact ⟨by simp, rfl⟩
set_option maxRecDepth 100000 in
set_option maxHeartbeats 1000000 in
theorem cmpW_c (a b : Int) (w : World) : Calls Tryz.prog 93 #[.int .i64 a, .int .i64 b] w fun e w' => e = .returned (.int .i64 (cmpG a b)) ∧ w' = w := by
  by_cases h1 : a < b
  · have HC : Hid (cmpG a b = -1) := by unfold Hid cmpG; rw [if_pos h1]
    go_enter Tryz.func93, Tryz.ntmps93
    go_wp2_with (go_at_call 126; refine (nanW_c _ _).mono ?_; rintro e w' ⟨rfl, rfl⟩)
    go_ret
    exact ⟨by rw [HC.out]; rfl, rfl⟩
  · by_cases h2 : b < a
    · have HC : Hid (cmpG a b = 1) := by unfold Hid cmpG; rw [if_neg h1, if_pos h2]
      go_enter Tryz.func93, Tryz.ntmps93
      go_wp2_with (go_at_call 126; refine (nanW_c _ _).mono ?_; rintro e w' ⟨rfl, rfl⟩)
      go_ret
      exact ⟨by rw [HC.out]; rfl, rfl⟩
    · have HC : Hid (cmpG a b = 0) := by unfold Hid cmpG; rw [if_neg h1, if_neg h2]
      go_enter Tryz.func93, Tryz.ntmps93
      go_wp2_with (go_at_call 126; refine (nanW_c _ _).mono ?_; rintro e w' ⟨rfl, rfl⟩)
      go_ret
      exact ⟨by rw [HC.out]; rfl, rfl⟩
end Go.Proofs.YtfncelifflebbaaGreat.Fx

