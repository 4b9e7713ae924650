/- OtA OtB -/
import Derived.Test.YtfncelifflebbaaGreatV32
import Derived.Test.YtfncelifflebbaaGreatV34

/- What orders do, plain; worlds of which only some blocks have turned, whatever marks what was made bears. -/


namespace Go.Proofs.YtfncelifflebbaaGreat.Fx
open Go.ChangeShapes Go.WideShapes Go.ChangeAt Go.RowKit
set_option linter.unusedVariables false

structure BuB (X : Nat → Prop) (w v : World) : Prop where
  os : v.os = w.os
  tape : v.tape = w.tape
  output : v.output = w.output
  size : w.heap.size ≤ v.heap.size
  block : ∀ b, b < w.heap.size → ¬ X b → v.heap[b]? = w.heap[b]?
theorem But.bub {X : Nat → Prop} {w v : World} (h : But X w v) : BuB X w v := ⟨h.os, h.tape, h.output, h.size, h.block⟩
theorem Below.bub {X : Nat → Prop} {w v : World} (h : Below w.heap.size w v) : BuB X w v := ⟨h.os, h.tape, h.output, h.size, fun b hb _ => h.block b hb⟩
theorem Made.bub {X : Nat → Prop} {w v : World} (h : Made w.heap.size w v) : BuB X w v := Below.bub h.1
theorem BuB.rfl_ (X : Nat → Prop) (w : World) : BuB X w w := (But.rfl_ X w).bub
theorem BuB.then_ {X : Nat → Prop} {a b c : World} (h : BuB X a b) (k : BuB X b c) : BuB X a c :=
  ⟨k.os.trans h.os, k.tape.trans h.tape, k.output.trans h.output, Nat.le_trans h.size k.size, fun i hi hx => (k.block i (Nat.lt_of_lt_of_le hi h.size) hx).trans (h.block i hi hx)⟩
theorem BuB.then_' {X Y : Nat → Prop} {a b c : World} (h : BuB X a b) (k : BuB Y b c) (hY : ∀ g, Y g → X g ∨ a.heap.size ≤ g) : BuB X a c :=
  ⟨k.os.trans h.os, k.tape.trans h.tape, k.output.trans h.output, Nat.le_trans h.size k.size, fun i hi hx => (k.block i (Nat.lt_of_lt_of_le hi h.size) (fun hy => by
    rcases hY i hy with h1 | h1
    · exact hx h1
    · omega)).trans (h.block i hi hx)⟩
theorem BuB.up {X Y : Nat → Prop} {w v : World} (k : BuB X w v) (h : ∀ b, b < w.heap.size → X b → Y b) : BuB Y w v :=
  ⟨k.os, k.tape, k.output, k.size, fun b hb hy => k.block b hb (fun hx => hy (h b hb hx))⟩
theorem BuB.below_ {X : Nat → Prop} {B : Nat} {a w v : World} (h : Below B a w) (k : BuB X w v) (hB : B ≤ w.heap.size) (hX : ∀ b, X b → B ≤ b) : Below B a v :=
  ⟨k.os.trans h.os, k.tape.trans h.tape, k.output.trans h.output, Nat.le_trans h.size k.size, fun b hb => (k.block b (Nat.lt_of_lt_of_le hb hB) (fun hx => by have := hX b hx; omega)).trans (h.block b hb)⟩
theorem BuB.put {X : Nat → Prop} {a w : World} (h : BuB X a w) {p : Addr} (hp : X p.block ∨ a.heap.size ≤ p.block) (u : Value) : BuB X a (w.setCell p u) := by
  have e : (w.setCell p u).heap.size = w.heap.size := by simp [World.setCell]
  refine ⟨h.os, h.tape, h.output, Nat.le_trans h.size (Nat.le_of_eq e.symm), fun b hb hx => ?_⟩
  refine (Below.heap_setCell w p u b ?_).trans (h.block b hb hx)
  rintro rfl
  rcases hp with hp | hp
  · exact hx hp
  · omega
theorem BuB.cell {X : Nat → Prop} {w v : World} (h : BuB X w v) {p : Addr} {x : Value} (k : w.cell? p = some x) (hx : ¬ X p.block) : v.cell? p = some x :=
  (World.cell?_of_block (h.block p.block (World.block_lt_of_cell? w _ k) hx)).trans k
theorem Has.bub {X : Nat → Prop} {w v : World} {g : Nat} {t : TypeId} {cs : Array Value} (h : Has w g t cs) (k : BuB X w v) (hx : ¬ X g) : Has v g t cs := (k.block g h.here hx).trans h
section
variable {α : Type} {enc : α → List Value} {k : Nat}
theorem LsB.bub {X : Nat → Prop} {w v : World} {b off : Nat} {l : List α} (h : LsB enc k w b off l) (kk : BuB X w v) (hx : ¬ X b) : LsB enc k v b off l := fun i x hi j u hu => kk.cell (h i x hi j u hu) hx
theorem LsT.bub {X : Nat → Prop} {w v : World} {ao : Option Addr} {l : List α} (h : LsT enc k w ao l) (kk : BuB X w v) (hx : 0 < l.length → Offs X ao) : LsT enc k v ao l := fun hl => by
  obtain ⟨b, off, e, hb, h⟩ := h hl
  exact ⟨b, off, e, Nat.lt_of_lt_of_le hb kk.size, h.bub kk (hx hl b off _ e)⟩
end
theorem Pts.bub {X : Nat → Prop} {w v : World} {b off n : Nat} {f : Nat → Int × Int} (h : Pts w b off n f) (k : BuB X w v) (hx : ¬ X b) : Pts v b off n f := fun i hi => ⟨k.cell (h i hi).1 hx, k.cell (h i hi).2 hx⟩
theorem Sl.bub {X : Nat → Prop} {w v : World} {ao : Option Addr} {n : Nat} {f : Cs} (h : Sl w ao n f) (k : BuB X w v) (hx : 0 < n → Offs X ao) : Sl v ao n f := fun hn => by
  obtain ⟨b, off, e, hp⟩ := h hn
  exact ⟨b, off, e, hp.bub k (hx hn b off _ e)⟩
theorem WLs.bub {X Y : Nat → Prop} {w v : World} {ob oj oc : Option Addr} {cb cj cc : Nat} {B : List Bd} {J : List Jt} {C : List Ct} (h : WLs X w ob cb B oj cj J oc cc C) (k : BuB Y w v) (hY : ∀ b, Y b → X b) : WLs X v ob cb B oj cj J oc cc C :=
  have k : BuB X w v := k.up (fun b _ => hY b)
  ⟨⟨h.at_.lB.bub k h.offB, h.at_.lJ.bub k h.offJ, h.at_.lC.bub k h.offC, fun b hb => ⟨(h.at_.sB b hb).1.bub k (h.offP b hb), (h.at_.sB b hb).2⟩, h.at_.iJ, h.at_.iC⟩, h.okB, h.okJ, h.okC, h.offB, h.offJ, h.offC, h.offP, h.okP⟩
theorem WVar.bub {X Y : Nat → Prop} {w v : World} {gw : Nat} {tk nb nj gx gy : Int} {B : List Bd} {J : List Jt} {C : List Ct} (h : WVar X w gw tk nb nj gx gy B J C) (k : BuB Y w v) (hY : ∀ b, Y b → X b) (hg : ¬ Y gw) : WVar X v gw tk nb nj gx gy B J C := by
  obtain ⟨ob, oj, oc, cb, cj, cc, hH, hL⟩ := h
  exact ⟨ob, oj, oc, cb, cj, cc, hH.bub k hg, hL.bub k hY⟩

theorem void_end {P : Program} {fn : Func} {R : Ending → World → Prop} {a : Act} {w : World} (h : fn.results = #[]) (hd : a.defers = []) (hR : R (.returned (.tuple #[])) w) : bodyPost P fn R .normal a w := bodyPost_end (results_none h _ _ _) hd hR
theorem void_ret {P : Program} {fn : Func} {R : Ending → World → Prop} {a : Act} {w : World} (h : fn.results = #[]) (hd : a.defers = []) (hR : R (.returned (.tuple #[])) w) : bodyPost P fn R .ret a w := bodyPost_ret (results_none h _ _ _) hd hR

structure PG where
  tk : Int
  gx : Int
  gy : Int
  P : PW
abbrev GV (X : Nat → Prop) (w : World) (gw : Nat) (G : PG) : Prop := WVar X w gw G.tk G.P.nb G.P.nj G.gx G.gy G.P.B G.P.J G.P.C
abbrev GOk (G : PG) : Prop := WorldP G.tk G.P.nb G.P.nj G.gx G.gy G.P.B G.P.J G.P.C
theorem GOk.p {G : PG} (h : GOk G) : POk G.P := ⟨h.hB, h.hJ, h.hC⟩
theorem POk.g {G : PG} (h : POk G.P) (ht : 0 ≤ G.tk ∧ G.tk ≤ 4611686018427387904) (hx : Inn G.gx 17592186044416) (hy : Inn G.gy 17592186044416) : GOk G := ⟨ht, hx, hy, h.hB, h.hJ, h.hC⟩


def moveB (b : Bd) : Int := if b.de ≤ 0 then 0 else divF 4294967296 (max (mulF b.de (areaB b)) 1)
def spinB (b : Bd) : Int := if b.de ≤ 0 then 0 else divF 4294967296 (max (mulF b.de (roundB b)) 1)
def pushB (vx vy sp : Int) (b : Bd) : Bd := { b with vx := bringF (addF b.vx (mulF vx (moveB b))) (negF 17592186044416) 17592186044416, vy := bringF (addF b.vy (mulF vy (moveB b))) (negF 17592186044416) 17592186044416, sp := bringF (addF b.sp (mulF sp (spinB b))) (-1099511627776) 1099511627776 }
theorem moveB_i (b : Bd) : I64 (moveB b) := by
  unfold moveB
  split
  · exact i64_0
  · exact i64_div _ _
theorem spinB_i (b : Bd) : I64 (spinB b) := by
  unfold spinB
  split
  · exact i64_0
  · exact i64_div _ _
theorem inn_bring (a m : Int) (h0 : 0 ≤ m) (h1 : m ≤ 4611686018427387904) : Inn (bringF a (negF m) m) m := by
  have e1 : cl (-m) = -m := cl_id (by omega)
  have e2 : cl m = m := cl_id (by omega)
  unfold bringF negF Inn
  rw [e2, e1]
  split
  · omega
  · split <;> omega
theorem pushB_ok {vx vy sp : Int} {b : Bd} (h : BodyP b) (hd : 0 < b.de) : BodyP (pushB vx vy sp b) :=
  ⟨h.shape, h.x, h.y, inn_bring _ _ (by omega) (by omega), inn_bring _ _ (by omega) (by omega), by
    have := inn_bring (addF b.sp (mulF sp (spinB b))) 1099511627776 (by omega) (by omega)
    rwa [show negF 1099511627776 = -1099511627776 by unfold negF; rw [cl_id (by omega)]] at this, h.an, h.de, fun h0 => by have h0 : b.de = 0 := h0; omega⟩
def PushP (id vx vy sp : Int) (P P' : PW) : Prop :=
  ((∀ b ∈ P.B, b.id = id → b.de ≤ 0) ∧ P' = P) ∨
  ∃ (i : Nat) (b : Bd), P.B[i]? = some b ∧ b.id = id ∧ 0 < b.de ∧ P' = ⟨P.nb, P.nj, P.B.set i (pushB vx vy sp b), P.J, P.C⟩
theorem ids_set {B : List Bd} {i : Nat} {b b' : Bd} (h : B[i]? = some b) (e : b'.id = b.id) : ids (B.set i b') = ids B := by
  obtain ⟨hi, hb⟩ := List.getElem?_eq_some_iff.1 h
  have hi' : i < (B.map (·.id)).length := by simpa using hi
  have e2 : b'.id = (B.map (·.id))[i] := by rw [List.getElem_map, hb, e]
  unfold ids
  rw [List.map_set, e2, List.set_getElem_self]
theorem push_ok {id vx vy sp : Int} {P P' : PW} (h : POk P) (k : PushP id vx vy sp P P') : POk P' := by
  rcases k with ⟨_, rfl⟩ | ⟨i, b, hb, _, hd, rfl⟩
  · exact h
  · have e : ids (P.B.set i (pushB vx vy sp b)) = ids P.B := ids_set hb rfl
    refine ⟨⟨by simpa using h.hB.len, fun x hx => ?_, by show NumP (ids _) _; rw [e]; exact h.hB.num⟩, ⟨h.hJ.len, fun j hj => ?_, h.hJ.num⟩, ⟨fun c hc => ?_, h.hC.up⟩⟩
    · rcases List.mem_or_eq_of_mem_set hx with hx | rfl
      · exact h.hB.all x hx
      · exact pushB_ok (h.hB.all b (List.mem_of_getElem? hb)) hd
    · show JointP j ∧ j.a ∈ ids _ ∧ j.b ∈ ids _
      rw [e]
      exact h.hJ.all j hj
    · show c.a < c.b ∧ 0 ≤ c.key ∧ 0 ≤ c.n ∧ c.a ∈ ids _ ∧ c.b ∈ ids _
      rw [e]
      exact h.hC.all c hc


def ExecP (o : Or) (G : PG) (er : Int) (G' : PG) : Prop :=
  (o.kd = 1 ∧ ∃ n P', AddBP (bodyOr o) G.P n er P' ∧ G' = ⟨G.tk, G.gx, G.gy, P'⟩) ∨
  (o.kd = 2 ∧ er = 0 ∧ ∃ gone P', RemBP o.id G.P gone P' ∧ G' = ⟨G.tk, G.gx, G.gy, P'⟩) ∨
  (o.kd = 3 ∧ ∃ n P', AddJP (jointOr o) G.P n er P' ∧ G' = ⟨G.tk, G.gx, G.gy, P'⟩) ∨
  (o.kd = 4 ∧ er = 0 ∧ ∃ gone P', RemJP o.id G.P gone P' ∧ G' = ⟨G.tk, G.gx, G.gy, P'⟩) ∨
  (o.kd = 5 ∧ er = 0 ∧ ∃ P', PushP o.id o.vx o.vy o.sp G.P P' ∧ G' = ⟨G.tk, G.gx, G.gy, P'⟩) ∨
  (o.kd = 6 ∧ er = 0 ∧ G' = ⟨G.tk, o.vx, o.vy, G.P⟩)
theorem exec_ok {o : Or} {G G' : PG} {er : Int} (h : GOk G) (ho : OrderP o) (k : ExecP o G er G') : GOk G' := by
  rcases k with ⟨_, n, P', k, rfl⟩ | ⟨_, _, g, P', k, rfl⟩ | ⟨_, n, P', k, rfl⟩ | ⟨_, _, g, P', k, rfl⟩ | ⟨_, _, P', k, rfl⟩ | ⟨hk, _, rfl⟩
  · exact POk.g (addB_ok h.p k) h.tk h.gx h.gy
  · refine POk.g ?_ h.tk h.gx h.gy
    rcases k with ⟨_, _, rfl⟩ | ⟨_, _, rfl⟩
    · exact h.p
    · exact remB_ok h.p
  · exact POk.g (addJ_ok h.p k) h.tk h.gx h.gy
  · refine POk.g ?_ h.tk h.gx h.gy
    rcases k with ⟨_, _, rfl⟩ | ⟨_, _, rfl⟩
    · exact h.p
    · exact remJ_ok h.p
  · exact POk.g (push_ok h.p k) h.tk h.gx h.gy
  · rcases ho with h1 | h1 | h1 | h1 | h1
    · omega
    · omega
    · omega
    · omega
    · exact POk.g h.p h.tk h1.2.2.2.2.2.2.2.2.1 h1.2.2.2.2.2.2.2.2.2
end Go.Proofs.YtfncelifflebbaaGreat.Fx


/- order.execute of any order, order.Do. -/

namespace Go.Proofs.YtfncelifflebbaaGreat.Fx
open Go.ChangeShapes Go.WideShapes Go.ChangeAt Go.RowKit
set_option linter.unusedVariables false

theorem addB_g {X : Nat → Prop} {w : World} {gw : Nat} {G : PG} (b : Bd) (hV : GV X w gw G) (hG : GOk G) (hXg : X gw) (hXw : ∀ b, X b → b < w.heap.size) (hs : Sl w b.ao b.n b.f) (hi : BdI b) (ho : (b.ao = none ∧ b.n = 0 ∧ b.c = 0) ∨ ∃ a, b.ao = some a) :
    Calls Tryz.prog 16 #[.pointer (some ⟨gw, 0, none⟩), bdV b] w fun e v => ∃ n er P', e = .returned (.tuple #[.int .i64 n, .int .i64 er]) ∧ AddBP b G.P n er P' ∧ GV X v gw ⟨G.tk, G.gx, G.gy, P'⟩ ∧ But (fun g => g = gw) w v := by
  have hP := hG.p
  obtain ⟨h1, h2, h3, h4⟩ := nb_I hP
  refine (addBody_c b hV hXg hXw hs hi ho h1 h2).mono ?_
  rintro e v (⟨a, rfl, k⟩ | ⟨a, b', rfl, k⟩ | ⟨a, b', c', rfl, k, ao, c, hv⟩)
  · exact ⟨0, 2, G.P, rfl, .inl ⟨a, rfl, rfl, rfl⟩, WVar.kept hV k, Made.but k⟩
  · exact ⟨0, 3, G.P, rfl, .inr (.inl ⟨a, b', rfl, rfl, rfl⟩), WVar.kept hV k, Made.but k⟩
  · exact ⟨G.P.nb, 0, ⟨G.P.nb + 1, G.P.nj, G.P.B ++ [newB G.P.nb b ao c], G.P.J, G.P.C⟩, rfl, .inr (.inr ⟨a, b', c', rfl, rfl, ao, c, rfl⟩), hv, k⟩
theorem addJ_g {X : Nat → Prop} {w : World} {gw : Nat} {G : PG} (j : Jt) (hV : GV X w gw G) (hG : GOk G) (hXg : X gw) (hXw : ∀ b, X b → b < w.heap.size) (hi : JtI j) :
    Calls Tryz.prog 18 #[.pointer (some ⟨gw, 0, none⟩), jtV j] w fun e v => ∃ n er P', e = .returned (.tuple #[.int .i64 n, .int .i64 er]) ∧ AddJP j G.P n er P' ∧ GV X v gw ⟨G.tk, G.gx, G.gy, P'⟩ ∧ But (fun g => g = gw) w v := by
  have hP := hG.p
  obtain ⟨h1, h2, h3, h4⟩ := nb_I hP
  refine (addJoint_c j hV hXg hXw hi h3 h4 (by have := hP.hB.len; omega) hP.hB.num.2.2.1).mono ?_
  rintro e v (⟨a, rfl, k⟩ | ⟨a, b', rfl, k⟩ | ⟨a, b', c', rfl, k⟩ | ⟨a, b', c', d, rfl, k, hv⟩)
  · exact ⟨0, 2, G.P, rfl, .inl ⟨a, rfl, rfl, rfl⟩, WVar.kept hV k, Made.but k⟩
  · exact ⟨0, 4, G.P, rfl, .inr (.inl ⟨a, b', rfl, rfl, rfl⟩), WVar.kept hV k, Made.but k⟩
  · exact ⟨0, 3, G.P, rfl, .inr (.inr (.inl ⟨a, b', c', rfl, rfl, rfl⟩)), WVar.kept hV k, Made.but k⟩
  · exact ⟨G.P.nj, 0, ⟨G.P.nb, G.P.nj + 1, G.P.B, G.P.J ++ [newJ G.P.nj j], G.P.C⟩, rfl, .inr (.inr (.inr ⟨a, b', c', d, rfl, rfl, rfl⟩)), hv, k⟩
theorem remB_g {X : Nat → Prop} {w : World} {gw : Nat} {G : PG} (id : Int) (hV : GV X w gw G) (hG : GOk G) (hXg : X gw) (hXw : ∀ b, X b → b < w.heap.size) (hmC : G.P.C.length ≤ 1073741824) :
    Calls Tryz.prog 20 #[.pointer (some ⟨gw, 0, none⟩), .int .i64 id] w fun e v => ∃ gone P', e = .returned (.bool gone) ∧ RemBP id G.P gone P' ∧ GV X v gw ⟨G.tk, G.gx, G.gy, P'⟩ ∧ But (fun g => g = gw) w v := by
  have hP := hG.p
  obtain ⟨h1, h2, h3, h4⟩ := nb_I hP
  refine (removeBody_c id hV hXg hXw (by have := hP.hB.len; omega) (by have := hP.hJ.len; omega) hmC hP.hB.num.2.2.1).mono ?_
  rintro e v (⟨a, rfl, k⟩ | ⟨a, rfl, k, hv⟩)
  · exact ⟨false, G.P, rfl, .inl ⟨a, rfl, rfl⟩, WVar.kept hV k, Made.but k⟩
  · exact ⟨true, remB G.P id, rfl, .inr ⟨a, rfl, rfl⟩, hv, k⟩
theorem remJ_g {X : Nat → Prop} {w : World} {gw : Nat} {G : PG} (id : Int) (hV : GV X w gw G) (hG : GOk G) (hXg : X gw) (hXw : ∀ b, X b → b < w.heap.size)  :
    Calls Tryz.prog 21 #[.pointer (some ⟨gw, 0, none⟩), .int .i64 id] w fun e v => ∃ gone P', e = .returned (.bool gone) ∧ RemJP id G.P gone P' ∧ GV X v gw ⟨G.tk, G.gx, G.gy, P'⟩ ∧ But (fun g => g = gw) w v := by
  have hP := hG.p
  obtain ⟨h1, h2, h3, h4⟩ := nb_I hP
  refine (removeJoint_c id hV hXg hXw (by have := hP.hJ.len; omega) hP.hJ.num.2.2.1).mono ?_
  rintro e v (⟨a, rfl, k⟩ | ⟨a, rfl, k, hv⟩)
  · exact ⟨false, G.P, rfl, .inl ⟨a, rfl, rfl⟩, WVar.kept hV k, Made.but k⟩
  · exact ⟨true, remJ G.P id, rfl, .inr ⟨a, rfl, rfl⟩, hv, k⟩
set_option maxRecDepth 100000 in
set_option maxHeartbeats 16000000 in
theorem exec5 (id a b x y vx vy an sp de ln k r : Int) (ao : Option Addr) (n c : Nat) (w : World) (gw : Nat) (lgw : gw < w.heap.size) (R : World → Prop) (HA : ∀ v, Made w.heap.size w v → Calls Tryz.prog 83 #[.pointer (some ⟨gw, 0, none⟩), .agg #[.int .i64 5, .int .i64 id, .int .i64 a, .int .i64 b, .int .i64 x, .int .i64 y, .int .i64 vx, .int .i64 vy, .int .i64 an, .int .i64 sp, .int .i64 de, .int .i64 ln, .int .i64 k, .int .i64 r, .slice ao n c]] v fun e u => e = .returned (.tuple #[]) ∧ R u) :
    Calls Tryz.prog 46 #[.pointer (some ⟨gw, 0, none⟩), .agg #[.int .i64 5, .int .i64 id, .int .i64 a, .int .i64 b, .int .i64 x, .int .i64 y, .int .i64 vx, .int .i64 vy, .int .i64 an, .int .i64 sp, .int .i64 de, .int .i64 ln, .int .i64 k, .int .i64 r, .slice ao n c]] w fun e v => e = .returned (.int .i64 0) ∧ R v := by
  have HA := hid HA
  obtain ⟨W, eW⟩ : ∃ W, W = w.alloc (.cells #[.int .i64 5, .int .i64 id, .int .i64 a, .int .i64 b, .int .i64 x, .int .i64 y, .int .i64 vx, .int .i64 vy, .int .i64 an, .int .i64 sp, .int .i64 de, .int .i64 ln, .int .i64 k, .int .i64 r, .slice ao n c] 29) := ⟨_, rfl⟩
  have KW : Hid (Made w.heap.size w W) := by unfold Hid; rw [eW]; exact (Made.rfl_ _ _).cells (Nat.le_refl _) _ _
  have HB : Hid (Has W w.heap.size 29 #[.int .i64 5, .int .i64 id, .int .i64 a, .int .i64 b, .int .i64 x, .int .i64 y, .int .i64 vx, .int .i64 vy, .int .i64 an, .int .i64 sp, .int .i64 de, .int .i64 ln, .int .i64 k, .int .i64 r, .slice ao n c]) := by unfold Hid; rw [eW]; exact has_new _ _ _
  obtain ⟨g1, eg1⟩ : ∃ g, w.heap.size = g := ⟨_, rfl⟩
  have HG1 := hid eg1
  rw [eg1] at HB
  have b_0 := HB.out.at_ 0
  have b_1 := HB.out.at_ 1
  have b_2 := HB.out.at_ 2
  have b_3 := HB.out.at_ 3
  have b_4 := HB.out.at_ 4
  have b_5 := HB.out.at_ 5
  have b_6 := HB.out.at_ 6
  have b_7 := HB.out.at_ 7
  have b_8 := HB.out.at_ 8
  have b_9 := HB.out.at_ 9
  have b_10 := HB.out.at_ 10
  have b_11 := HB.out.at_ 11
  have b_12 := HB.out.at_ 12
  have b_13 := HB.out.at_ 13
  have b_14 := HB.out.at_ 14
  simp at b_0 b_1 b_2 b_3 b_4 b_5 b_6 b_7 b_8 b_9 b_10 b_11 b_12 b_13 b_14
  have l1 : g1 < W.heap.size := HB.out.here
  go_enter Tryz.func46, Tryz.ntmps46
  go_upto_region 1 with fail
  rw [← eW]
  clear eW
  try rw [eg1]
  clear eg1
  have lw : gw < W.heap.size := Nat.lt_of_lt_of_le lgw KW.out.1.size
  go_wp2_with fail
  refine (HA.out _ KW.out).mono ?_
  rintro e w1 ⟨rfl, hR⟩
  have HR := hid hR
  clear hR b_0 b_1 b_2 b_3 b_4 b_5 b_6 b_7 b_8 b_9 b_10 b_11 b_12 b_13 b_14 l1 lw
  go_wp2_with fail
  go_ret
  exact ⟨by first | rfl | trivial, HR.out⟩
theorem exec_c {X : Nat → Prop} {w : World} {gw : Nat} {G : PG} (o : Or) (hV : GV X w gw G) (hG : GOk G) (hXg : X gw) (hXw : ∀ b, X b → b < w.heap.size) (hoi : OrI o) (hoP : OrderP o) (hos : Sl w o.ao o.n o.f) (hok : (o.ao = none ∧ o.n = 0 ∧ o.c = 0) ∨ ∃ a, o.ao = some a) (hmC : G.P.C.length ≤ 1073741824)
    (HP : o.kd = 5 → ∀ v, Made w.heap.size w v → Calls Tryz.prog 83 #[.pointer (some ⟨gw, 0, none⟩), orV o] v fun e u => e = .returned (.tuple #[]) ∧ ∃ P', PushP o.id o.vx o.vy o.sp G.P P' ∧ GV X u gw ⟨G.tk, G.gx, G.gy, P'⟩ ∧ BuB (fun g => g = gw) v u) :
    Calls Tryz.prog 46 #[.pointer (some ⟨gw, 0, none⟩), orV o] w fun e v => ∃ er G', e = .returned (.int .i64 er) ∧ ExecP o G er G' ∧ GV X v gw G' ∧ BuB (fun g => g = gw) w v := by
  have lgw : gw < w.heap.size := WVar.here hV
  have lX : ∀ v, Made w.heap.size w v → ∀ b, X b → b < v.heap.size := fun v k b hb => Nat.lt_of_lt_of_le (hXw b hb) k.1.size
  have hk : o.kd = 1 ∨ o.kd = 2 ∨ o.kd = 3 ∨ o.kd = 4 ∨ o.kd = 5 ∨ o.kd = 6 := by
    rcases hoP with h | h | h | h | h
    · exact .inl h.1
    · have := h.1; omega
    · have := h.1; omega
    · have := h.1; omega
    · have := h.1; omega
  obtain ⟨kd, id, a, b, x, y, vx, vy, an, sp, de, ln, k, r, ao, n, c, f⟩ := o
  have hk : kd = 1 ∨ kd = 2 ∨ kd = 3 ∨ kd = 4 ∨ kd = 5 ∨ kd = 6 := hk
  rcases hk with rfl | rfl | rfl | rfl | rfl | rfl
  · refine (exec1 id a b x y vx vy an sp de ln k r ao n c w gw lgw (fun nn er u => ∃ P', AddBP (bodyOr ⟨1, id, a, b, x, y, vx, vy, an, sp, de, ln, k, r, ao, n, c, f⟩) G.P nn er P' ∧ GV X u gw ⟨G.tk, G.gx, G.gy, P'⟩ ∧ But (fun g => g = gw) w u) ?_).mono ?_
    · intro v k'
      refine (addB_g (bodyOr ⟨1, id, a, b, x, y, vx, vy, an, sp, de, ln, k, r, ao, n, c, f⟩) (WVar.kept hV k') hG hXg (lX v k') (Sl.kept hos k') hoi.body hok).mono ?_
      rintro e u ⟨nn, er, P', rfl, h1, h2, h3⟩
      exact ⟨nn, er, rfl, P', h1, h2, (Made.but k').then_ h3⟩
    · rintro e v ⟨nn, er, rfl, P', h1, h2, h3⟩
      exact ⟨er, ⟨G.tk, G.gx, G.gy, P'⟩, rfl, .inl ⟨rfl, nn, P', h1, rfl⟩, h2, h3.bub⟩
  · refine (exec2 id a b x y vx vy an sp de ln k r ao n c w gw lgw (fun gone u => ∃ P', RemBP id G.P gone P' ∧ GV X u gw ⟨G.tk, G.gx, G.gy, P'⟩ ∧ But (fun g => g = gw) w u) ?_).mono ?_
    · intro v k'
      refine (remB_g id (WVar.kept hV k') hG hXg (lX v k') hmC).mono ?_
      rintro e u ⟨gone, P', rfl, h1, h2, h3⟩
      exact ⟨gone, rfl, P', h1, h2, (Made.but k').then_ h3⟩
    · rintro e v ⟨rfl, gone, P', h1, h2, h3⟩
      exact ⟨0, ⟨G.tk, G.gx, G.gy, P'⟩, rfl, .inr (.inl ⟨rfl, rfl, gone, P', h1, rfl⟩), h2, h3.bub⟩
  · refine (exec3 id a b x y vx vy an sp de ln k r ao n c w gw lgw (fun nn er u => ∃ P', AddJP (jointOr ⟨3, id, a, b, x, y, vx, vy, an, sp, de, ln, k, r, ao, n, c, f⟩) G.P nn er P' ∧ GV X u gw ⟨G.tk, G.gx, G.gy, P'⟩ ∧ But (fun g => g = gw) w u) ?_).mono ?_
    · intro v k'
      refine (addJ_g (jointOr ⟨3, id, a, b, x, y, vx, vy, an, sp, de, ln, k, r, ao, n, c, f⟩) (WVar.kept hV k') hG hXg (lX v k') hoi.joint).mono ?_
      rintro e u ⟨nn, er, P', rfl, h1, h2, h3⟩
      exact ⟨nn, er, rfl, P', h1, h2, (Made.but k').then_ h3⟩
    · rintro e v ⟨nn, er, rfl, P', h1, h2, h3⟩
      exact ⟨er, ⟨G.tk, G.gx, G.gy, P'⟩, rfl, .inr (.inr (.inl ⟨rfl, nn, P', h1, rfl⟩)), h2, h3.bub⟩
  · refine (exec4 id a b x y vx vy an sp de ln k r ao n c w gw lgw (fun gone u => ∃ P', RemJP id G.P gone P' ∧ GV X u gw ⟨G.tk, G.gx, G.gy, P'⟩ ∧ But (fun g => g = gw) w u) ?_).mono ?_
    · intro v k'
      refine (remJ_g id (WVar.kept hV k') hG hXg (lX v k')).mono ?_
      rintro e u ⟨gone, P', rfl, h1, h2, h3⟩
      exact ⟨gone, rfl, P', h1, h2, (Made.but k').then_ h3⟩
    · rintro e v ⟨rfl, gone, P', h1, h2, h3⟩
      exact ⟨0, ⟨G.tk, G.gx, G.gy, P'⟩, rfl, .inr (.inr (.inr (.inl ⟨rfl, rfl, gone, P', h1, rfl⟩))), h2, h3.bub⟩
  · refine (exec5 id a b x y vx vy an sp de ln k r ao n c w gw lgw (fun u => ∃ P', PushP id vx vy sp G.P P' ∧ GV X u gw ⟨G.tk, G.gx, G.gy, P'⟩ ∧ BuB (fun g => g = gw) w u) (fun v k' => (HP rfl v k').mono fun e u ⟨h0, P', h1, h2, h3⟩ => ⟨h0, P', h1, h2, (Made.bub k').then_ h3⟩)).mono ?_
    rintro e v ⟨rfl, P', h1, h2, h3⟩
    exact ⟨0, ⟨G.tk, G.gx, G.gy, P'⟩, rfl, .inr (.inr (.inr (.inr (.inl ⟨rfl, rfl, P', h1, rfl⟩)))), h2, h3⟩
  · obtain ⟨ob, oj, oc, cb, cj, cc, hH, hL⟩ := hV
    refine (exec6 id a b x y vx vy an sp de ln k r ao n c w gw lgw hH).mono ?_
    rintro e v ⟨rfl, kb, hh⟩
    exact ⟨0, ⟨G.tk, vx, vy, G.P⟩, rfl, .inr (.inr (.inr (.inr (.inr ⟨rfl, rfl, rfl⟩)))), ⟨ob, oj, oc, cb, cj, cc, hh, hL.but kb (fun b hb => by have hb : b = gw := hb; rw [hb]; exact hXg)⟩, kb.bub⟩
set_option maxRecDepth 100000 in
set_option maxHeartbeats 16000000 in
theorem odo_x (kd id a b x y vx vy an sp de ln k r : Int) (ao : Option Addr) (n c : Nat) (w : World) (gw : Nat) (lgw : gw < w.heap.size) (R : Int → World → Prop) (HA : ∀ v, Made w.heap.size w v → Calls Tryz.prog 46 #[.pointer (some ⟨gw, 0, none⟩), .agg #[.int .i64 kd, .int .i64 id, .int .i64 a, .int .i64 b, .int .i64 x, .int .i64 y, .int .i64 vx, .int .i64 vy, .int .i64 an, .int .i64 sp, .int .i64 de, .int .i64 ln, .int .i64 k, .int .i64 r, .slice ao n c]] v fun e u => ∃ er, e = .returned (.int .i64 er) ∧ R er u) :
    Calls Tryz.prog 15 #[.pointer (some ⟨gw, 0, none⟩), .agg #[.int .i64 kd, .int .i64 id, .int .i64 a, .int .i64 b, .int .i64 x, .int .i64 y, .int .i64 vx, .int .i64 vy, .int .i64 an, .int .i64 sp, .int .i64 de, .int .i64 ln, .int .i64 k, .int .i64 r, .slice ao n c]] w fun e v => e = .returned (.tuple #[]) ∧ ∃ er, R er v := by
  have HA := hid HA
  obtain ⟨W, eW⟩ : ∃ W, W = w.alloc (.cells #[.int .i64 kd, .int .i64 id, .int .i64 a, .int .i64 b, .int .i64 x, .int .i64 y, .int .i64 vx, .int .i64 vy, .int .i64 an, .int .i64 sp, .int .i64 de, .int .i64 ln, .int .i64 k, .int .i64 r, .slice ao n c] 29) := ⟨_, rfl⟩
  have KW : Hid (Made w.heap.size w W) := by unfold Hid; rw [eW]; exact (Made.rfl_ _ _).cells (Nat.le_refl _) _ _
  have HB : Hid (Has W w.heap.size 29 #[.int .i64 kd, .int .i64 id, .int .i64 a, .int .i64 b, .int .i64 x, .int .i64 y, .int .i64 vx, .int .i64 vy, .int .i64 an, .int .i64 sp, .int .i64 de, .int .i64 ln, .int .i64 k, .int .i64 r, .slice ao n c]) := by unfold Hid; rw [eW]; exact has_new _ _ _
  obtain ⟨g1, eg1⟩ : ∃ g, w.heap.size = g := ⟨_, rfl⟩
  have HG1 := hid eg1
  rw [eg1] at HB
  have b_0 := HB.out.at_ 0
  have b_1 := HB.out.at_ 1
  have b_2 := HB.out.at_ 2
  have b_3 := HB.out.at_ 3
  have b_4 := HB.out.at_ 4
  have b_5 := HB.out.at_ 5
  have b_6 := HB.out.at_ 6
  have b_7 := HB.out.at_ 7
  have b_8 := HB.out.at_ 8
  have b_9 := HB.out.at_ 9
  have b_10 := HB.out.at_ 10
  have b_11 := HB.out.at_ 11
  have b_12 := HB.out.at_ 12
  have b_13 := HB.out.at_ 13
  have b_14 := HB.out.at_ 14
  simp at b_0 b_1 b_2 b_3 b_4 b_5 b_6 b_7 b_8 b_9 b_10 b_11 b_12 b_13 b_14
  have l1 : g1 < W.heap.size := HB.out.here
  go_enter Tryz.func15, Tryz.ntmps15
  go_upto_region 1 with fail
  rw [← eW]
  clear eW
  try rw [eg1]
  clear eg1
  have lw : gw < W.heap.size := Nat.lt_of_lt_of_le lgw KW.out.1.size
  go_wp2_with fail
  refine (HA.out _ KW.out).mono ?_
  rintro e w1 ⟨er, rfl, hR⟩
  have HR := hid hR
  clear hR b_0 b_1 b_2 b_3 b_4 b_5 b_6 b_7 b_8 b_9 b_10 b_11 b_12 b_13 b_14 l1 lw
  go_wp2_with fail
  first | refine void_end rfl rfl ?_ | refine void_ret rfl rfl ?_
  exact ⟨rfl, er, HR.out⟩
theorem odo_c {X : Nat → Prop} {w : World} {gw : Nat} {G : PG} (o : Or) (hV : GV X w gw G) (hG : GOk G) (hXg : X gw) (hXw : ∀ b, X b → b < w.heap.size) (hoi : OrI o) (hoP : OrderP o) (hos : Sl w o.ao o.n o.f) (hok : (o.ao = none ∧ o.n = 0 ∧ o.c = 0) ∨ ∃ a, o.ao = some a) (hmC : G.P.C.length ≤ 1073741824)
    (HP : o.kd = 5 → ∀ v, Made w.heap.size w v → Calls Tryz.prog 83 #[.pointer (some ⟨gw, 0, none⟩), orV o] v fun e u => e = .returned (.tuple #[]) ∧ ∃ P', PushP o.id o.vx o.vy o.sp G.P P' ∧ GV X u gw ⟨G.tk, G.gx, G.gy, P'⟩ ∧ BuB (fun g => g = gw) v u) :
    Calls Tryz.prog 15 #[.pointer (some ⟨gw, 0, none⟩), orV o] w fun e v => e = .returned (.tuple #[]) ∧ ∃ er G', ExecP o G er G' ∧ GV X v gw G' ∧ BuB (fun g => g = gw) w v := by
  refine (odo_x o.kd o.id o.a o.b o.x o.y o.vx o.vy o.an o.sp o.de o.ln o.k o.r o.ao o.n o.c w gw (WVar.here hV) (fun er u => ∃ G', ExecP o G er G' ∧ GV X u gw G' ∧ BuB (fun g => g = gw) w u) ?_).mono ?_
  · intro v k
    refine (exec_c o (WVar.kept hV k) hG hXg (fun b hb => Nat.lt_of_lt_of_le (hXw b hb) k.1.size) hoi hoP (Sl.kept hos k) hok hmC (fun h5 u ku => ?_)).mono ?_
    · refine (HP h5 u (k.then_ (ku.low k.1.size))).mono ?_
      exact fun e z h => h
    · rintro e u ⟨er, G', rfl, h1, h2, h3⟩
      exact ⟨er, rfl, G', h1, h2, (Made.bub k).then_ h3⟩
  · rintro e v ⟨rfl, er, G', h1, h2, h3⟩
    exact ⟨rfl, er, G', h1, h2, h3⟩
end Go.Proofs.YtfncelifflebbaaGreat.Fx

