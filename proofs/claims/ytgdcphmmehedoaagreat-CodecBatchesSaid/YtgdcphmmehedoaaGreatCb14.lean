/- WlP WlR WsC OrA Rst -/
import Derived.Test.YtgdcphmmehedoaaGreatCb6
import Derived.Test.YtgdcphmmehedoaaGreatCb10
import Derived.Test.YtgdcphmmehedoaaGreatCb11
import Derived.Test.YtgdcphmmehedoaaGreatCb13
set_option maxRecDepth 100000
set_option maxHeartbeats 64000000
/- WorldNumbers. -/
namespace Go.Proofs.YtgdcphmmehedoaaGreat.Fx
open Go.ChangeShapes Go.WideShapes Go.ChangeAt Go.RowKit
set_option linter.unusedVariables false
def U8At (w : World) (ao : Option Addr) (n : Nat) (f : Nat → Int) : Prop := 0 < n → ∃ b off, ao = some ⟨b, off, none⟩ ∧ ∀ i, i < n → w.cell? ⟨b, off + i, none⟩ = some (.int .u8 (f i)) ∧ 0 ≤ f i ∧ f i < 256
theorem U8At.kept {w v : World} {ao : Option Addr} {n : Nat} {f : Nat → Int} (h : U8At w ao n f) (k : Made w.heap.size w v) : U8At v ao n f := fun hn => by
 obtain ⟨b, off, e, h⟩ := h hn
 exact ⟨b, off, e, fun i hi => ⟨k.reads (h i hi).1, (h i hi).2⟩⟩
end Go.Proofs.YtgdcphmmehedoaaGreat.Fx
/- WorldRights. -/
namespace Go.Proofs.YtgdcphmmehedoaaGreat.Fx
open Go.ChangeShapes Go.WideShapes Go.ChangeAt Go.RowKit
set_option linter.unusedVariables false
theorem SameB.i {b b' : Bd} (h : SameB b b') (k : BdI b) : BdI b' := by
 obtain ⟨h0, h1, h2, h3, h4, h5, h6, h7, h8, h9, h10, h11⟩ := h
 exact ⟨h0 ▸ k.id, h1 ▸ k.x, h2 ▸ k.y, h3 ▸ k.vx, h4 ▸ k.vy, h5 ▸ k.an, h6 ▸ k.sp, h7 ▸ k.de, h8 ▸ k.k, h9 ▸ k.r, h10 ▸ h11 ▸ k.f⟩
end Go.Proofs.YtgdcphmmehedoaaGreat.Fx
/- Copies of a world, each in a stretch of blocks of its own. -/
namespace Go.Proofs.YtgdcphmmehedoaaGreat.Fx
open Go.ChangeShapes Go.WideShapes Go.ChangeAt Go.RowKit
set_option linter.unusedVariables false
def SameBs (B B' : List Bd) : Prop := B'.length = B.length ∧ ∀ (i : Nat) b b', B[i]? = some b → B'[i]? = some b' → SameB b b'
def CopyV (P : PW) (v : World) (lo : Nat) (e : MI.Ex) : Prop :=
 ∃ ob oj cb cj, e.v = wdV 0 P.nb P.nj 0 0 (.slice ob P.B.length cb) (.slice oj P.J.length cj) (.slice none 0 0) ∧ SameBs P.B e.bs ∧ WLs (fun b => b < lo ∨ e.hi ≤ b) v ob cb e.bs oj cj P.J none 0 [] ∧
  (0 < P.B.length → ∃ g, ob = some ⟨g, 0, none⟩ ∧ RowL encB 11 v g 35 P.B.length e.bs) ∧ (0 < P.B.length → 0 < P.J.length → ∀ g o s o' s', ob = some ⟨g, o, s⟩ → oj = some ⟨g, o', s'⟩ → False) ∧ (0 < P.J.length → ∃ g, oj = some ⟨g, 0, none⟩) ∧ ∀ b ∈ e.bs, Mine (fun g => ob = some ⟨g, 0, none⟩ ∨ oj = some ⟨g, 0, none⟩) lo v b
theorem CopyV.kept {P : PW} {u v : World} {lo : Nat} {e : MI.Ex} (h : CopyV P u lo e) (hh : e.hi ≤ u.heap.size) (k : Made u.heap.size u v) : CopyV P v lo e := by
 obtain ⟨ob, oj, cb, cj, h1, h2, h3, h4, h6, h7, h5⟩ := h
 refine ⟨ob, oj, cb, cj, h1, h2, h3.kept k, fun hn => ?_, h6, h7, fun b hb => MadeMine (h5 b hb) k⟩
 obtain ⟨g, e, hr⟩ := h4 hn
 exact ⟨g, e, hr.stays k hr.here⟩
theorem SameB.ok {b b' : Bd} (h : SameB b b') (k : BodyP b) : BodyP b' := by
 obtain ⟨h0, h1, h2, h3, h4, h5, h6, h7, h8, h9, h10, h11⟩ := h
 refine ⟨?_, ?_, ?_, ?_, ?_, ?_, ?_, ?_, ?_⟩
 ·rw [h8, h9, h10, h11]; exact k.shape
 ·rw [h1]; exact k.x
 ·rw [h2]; exact k.y
 ·rw [h3]; exact k.vx
 ·rw [h4]; exact k.vy
 ·rw [h6]; exact k.sp
 ·rw [h5]; exact k.an
 ·rw [h7]; exact k.de
 ·rw [h7, h3, h4, h6]; exact k.still
theorem SameB.eqb {b b' : Bd} (h : SameB b b') : EqB b b' := by
 obtain ⟨h0, h1, h2, h3, h4, h5, h6, h7, h8, h9, h10, h11⟩ := h
 exact ⟨h0.symm, ⟨h1.symm, h2.symm⟩, ⟨h3.symm, h4.symm⟩, h5.symm, h6.symm, h7.symm, h8.symm, h9.symm, h10.symm, fun i _ => by rw [h11]⟩
theorem EqB.symm {b b' : Bd} (h : EqB b b') : EqB b' b := by
 obtain ⟨h0, h1, h2, h3, h4, h5, h6, h7, h8, h9⟩ := h
 exact ⟨h0.symm, ⟨h1.1.symm, h1.2.symm⟩, ⟨h2.1.symm, h2.2.symm⟩, h3.symm, h4.symm, h5.symm, h6.symm, h7.symm, h8.symm, fun i hi => (h9 i (h8 ▸ hi)).symm⟩
theorem EqB.trans {a b c : Bd} (h : EqB a b) (k : EqB b c) : EqB a c := by
 obtain ⟨h0, h1, h2, h3, h4, h5, h6, h7, h8, h9⟩ := h
 obtain ⟨k0, k1, k2, k3, k4, k5, k6, k7, k8, k9⟩ := k
 exact ⟨h0.trans k0, ⟨h1.1.trans k1.1, h1.2.trans k1.2⟩, ⟨h2.1.trans k2.1, h2.2.trans k2.2⟩, h3.trans k3, h4.trans k4, h5.trans k5, h6.trans k6, h7.trans k7, h8.trans k8, fun i hi => (h9 i hi).trans (k9 i (h8 ▸ hi))⟩
theorem SameBs.eq {B B' : List Bd} (h : SameBs B B') : EqBs B B' := ⟨h.1.symm, fun i x y hx hy => (h.2 i x y hx hy).eqb⟩
theorem EqBs.symm {B B' : List Bd} (h : EqBs B B') : EqBs B' B := ⟨h.1.symm, fun i x y hx hy => (h.2 i y x hy hx).symm⟩
theorem EqBs.trans {A B C : List Bd} (h : EqBs A B) (k : EqBs B C) : EqBs A C := ⟨h.1.trans k.1, fun i x z hx hz => by
 have hi := (List.getElem?_eq_some_iff.1 hx).1
 have hy : B[i]? = some (B[i]'(by rw [← h.1]; exact hi)) := List.getElem?_eq_getElem _
 exact (h.2 i _ _ hx hy).trans (k.2 i _ _ hy hz)⟩
abbrev Out (lo hi : Nat) : Nat → Prop := fun b => b < lo ∨ hi ≤ b
def turnB (ao : Option Addr) (p : Int) (b : Bd) : Bd := ⟨b.id, b.x, b.y, b.vx, b.vy, b.an, b.sp, b.de, b.k, b.r, b.ao, b.n, b.c, open Classical in if b.ao = ao ∧ 0 < b.n then fun i => if i = 0 then (p, (b.f 0).2) else b.f i else b.f⟩
theorem LsT.map {α : Type} {enc : α → List Value} {k : Nat} {w : World} {ao : Option Addr} {l : List α} (h : LsT enc k w ao l) (g : α → α) (hg : ∀ x, enc (g x) = enc x) : LsT enc k w ao (l.map g) := fun hn => by
 obtain ⟨b, off, e, hb, hl⟩ := h (by simpa using hn)
 refine ⟨b, off, e, hb, fun i x hx j u hu => ?_⟩
 rw [List.getElem?_map] at hx
 cases hy : l[i]? with
 | none => rw [hy] at hx; cases hx
 | some y =>
  rw [hy] at hx
  simp at hx
  rw [← hx, hg] at hu
  exact hl i y hy j u hu
end Go.Proofs.YtgdcphmmehedoaaGreat.Fx
/- Orders, plain. -/
namespace Go.Proofs.YtgdcphmmehedoaaGreat.Fx
open Go.ChangeShapes Go.WideShapes Go.ChangeAt Go.RowKit
set_option linter.unusedVariables false
structure Or where
 kd : Int
 id : Int
 a : Int
 b : Int
 x : Int
 y : Int
 vx : Int
 vy : Int
 an : Int
 sp : Int
 de : Int
 ln : Int
 k : Int
 r : Int
 ao : Option Addr
 n : Nat
 c : Nat
 f : Cs
abbrev orV (o : Or) : Value := .agg #[.int .i64 o.kd, .int .i64 o.id, .int .i64 o.a, .int .i64 o.b, .int .i64 o.x, .int .i64 o.y, .int .i64 o.vx, .int .i64 o.vy, .int .i64 o.an, .int .i64 o.sp, .int .i64 o.de, .int .i64 o.ln, .int .i64 o.k, .int .i64 o.r, .slice o.ao o.n o.c]
def encO (o : Or) : List Value := [.int .i64 o.kd, .int .i64 o.id, .int .i64 o.a, .int .i64 o.b, .int .i64 o.x, .int .i64 o.y, .int .i64 o.vx, .int .i64 o.vy, .int .i64 o.an, .int .i64 o.sp, .int .i64 o.de, .int .i64 o.ln, .int .i64 o.k, .int .i64 o.r, .slice o.ao o.n o.c]
structure OrI (o : Or) : Prop where
 kd : I64 o.kd
 id : I64 o.id
 a : I64 o.a
 b : I64 o.b
 x : I64 o.x
 y : I64 o.y
 vx : I64 o.vx
 vy : I64 o.vy
 an : I64 o.an
 sp : I64 o.sp
 de : I64 o.de
 ln : I64 o.ln
 k : I64 o.k
 r : I64 o.r
 f : Cin o.f o.n
def bodyOr (o : Or) : Bd := ⟨0, o.x, o.y, o.vx, o.vy, o.an, o.sp, o.de, o.k, o.r, o.ao, o.n, o.c, o.f⟩
def jointOr (o : Or) : Jt := ⟨0, o.a, o.b, o.x, o.y, o.vx, o.vy, o.ln⟩
theorem OrI.body {o : Or} (h : OrI o) : BdI (bodyOr o) := ⟨i64_0, h.x, h.y, h.vx, h.vy, h.an, h.sp, h.de, h.k, h.r, h.f⟩
theorem OrI.joint {o : Or} (h : OrI o) : JtI (jointOr o) := ⟨i64_0, h.a, h.b, h.x, h.y, h.vx, h.vy, h.ln⟩
def Or.kind (k : Int) : Or := ⟨k, 0, 0, 0, 0, 0, 0, 0, 0, 0, 0, 0, 0, 0, none, 0, 0, fun _ => (0, 0)⟩
def usedOr (o : Or) : Or :=
 if o.kd = 1 then ⟨1, 0, 0, 0, o.x, o.y, o.vx, o.vy, o.an, o.sp, o.de, 0, o.k, o.r, o.ao, o.n, o.c, o.f⟩
 else if o.kd = 2 ∨ o.kd = 4 then { Or.kind o.kd with id := o.id }
 else if o.kd = 3 then ⟨3, 0, o.a, o.b, o.x, o.y, o.vx, o.vy, 0, 0, 0, o.ln, 0, 0, none, 0, 0, fun _ => (0, 0)⟩
 else if o.kd = 5 then ⟨5, o.id, 0, 0, 0, 0, o.vx, o.vy, 0, o.sp, 0, 0, 0, 0, none, 0, 0, fun _ => (0, 0)⟩
 else if o.kd = 6 then ⟨6, 0, 0, 0, 0, 0, o.vx, o.vy, 0, 0, 0, 0, 0, 0, none, 0, 0, fun _ => (0, 0)⟩
 else Or.kind o.kd
def BareO (o : Or) : Prop := o.k = 0 ∧ o.r = 0 ∧ o.n = 0 ∧ o.de = 0 ∧ o.an = 0
def OrderP (o : Or) : Prop :=
 (o.kd = 1 ∧ o.id = 0 ∧ o.a = 0 ∧ o.b = 0 ∧ o.ln = 0 ∧ BodyP (bodyOr o)) ∨
 ((o.kd = 2 ∨ o.kd = 4) ∧ BareO o ∧ 0 < o.id ∧ o.a = 0 ∧ o.b = 0 ∧ (o.x = 0 ∧ o.y = 0) ∧ (o.vx = 0 ∧ o.vy = 0) ∧ o.sp = 0 ∧ o.ln = 0) ∨
 (o.kd = 3 ∧ BareO o ∧ o.id = 0 ∧ o.sp = 0 ∧ JointP (jointOr o)) ∨
 (o.kd = 5 ∧ BareO o ∧ 0 < o.id ∧ o.a = 0 ∧ o.b = 0 ∧ (o.x = 0 ∧ o.y = 0) ∧ o.ln = 0 ∧ Inn o.vx 4611686018427387904 ∧ Inn o.vy 4611686018427387904 ∧ Inn o.sp 4611686018427387904) ∨
 (o.kd = 6 ∧ BareO o ∧ o.id = 0 ∧ o.a = 0 ∧ o.b = 0 ∧ (o.x = 0 ∧ o.y = 0) ∧ o.sp = 0 ∧ o.ln = 0 ∧ Inn o.vx 17592186044416 ∧ Inn o.vy 17592186044416)
end Go.Proofs.YtgdcphmmehedoaaGreat.Fx
/- Regions that draw their order and hold a chain of stores: quiet operations and stores in whatever order the edges allow, as long as no store turns what a quiet one looks at. -/
namespace Go.Proofs.YtgdcphmmehedoaaGreat.Fx.RS
open Go.ChangeShapes Go.WideShapes Go.ChangeAt Go.RowKit
set_option linter.unusedVariables false
theorem eval_slot {a b : Act} {x : Operand} (h : ∀ t, x = .tmp t → a.tmps[t]? = b.tmps[t]?) : a.eval x = b.eval x := by
 cases x with
 | tmp t => simp [Act.eval, h t rfl]
 | _ => rfl
theorem exec_slot {ops : Array Oper} {a b : Act} {o : Oper} (hs : ∀ cs c, o.op ≠ .select cs c) (h : ∀ t, t ∈ o.looksAt ops → a.tmps[t]? = b.tmps[t]?) : execOp a.eval o = execOp b.eval o :=
 execOp_congr o hs fun x hx => eval_slot fun t e => h t (by
  subst e
  exact List.mem_append_left _ (List.mem_filterMap.2 ⟨.tmp t, by simpa using hx, rfl⟩))
theorem wanted_free {ops : Array Oper} {o : Oper} (a : Act) (h : o.guard = none) : Region.wanted o (yielded ops a.tmps) = true := by unfold Region.wanted; rw [h]
def laterB (ops : Array Oper) : List Oper → Bool
 | [] => true
 | o :: l => (o :: l).all (fun o' => match o'.dst with | some d => !(o.looksAt ops).contains d | none => true) && laterB ops l
section
variable {P : Program} {ops : Array Oper} {md : Region.Mode} {Q : Exit → Act → World → Prop} {A : Act} {U : Nat → World}
theorem defers_put (a : Act) (d : Option Tmp) (v : Value) : (a.put d v).defers = a.defers := by cases d <;> rfl
theorem quiet_defers {C : World → Prop} : ∀ (l : List Oper) (a : Act), wpQuiet P ops C (fun a' => a' = A) l a → A.defers = a.defers ∧ A.tmps.size = a.tmps.size
 | [], a, h => by rw [show a = A from h]; exact ⟨rfl, rfl⟩
 | o :: l, a, h => by
  obtain ⟨v, _, h'⟩ := quiet_cons h
  obtain ⟨h1, h2⟩ := quiet_defers l _ h'
  exact ⟨h1.trans (defers_put a o.dst v), h2.trans (put_size a o.dst v)⟩
theorem quiet_at {C : World → Prop} (hsel : ∀ (j : Nat) (o : Oper) cs b, ops[j]? = some o → o.op ≠ .select cs b) {N : Nat} : ∀ (l : List Oper) (a : Act), wpQuiet P ops C (fun a' => a' = A) l a → a.tmps.size = N → dstB N l = true → laterB ops l = true → (∀ o ∈ l, o.guard = none ∧ ∃ j : Nat, ops[j]? = some o) →
  ∀ o ∈ l, ∃ v d, o.dst = some d ∧ A.tmps[d]? = some v ∧ ∀ u, C u → o.quietAt P A C u v
 | [], a, _, _, _, _, _, o, ho => by cases ho
 | o :: l, a, h, hN, hD, hL, hG, x, hx => by
  obtain ⟨v, hy, h'⟩ := quiet_cons h
  have hD0 := hD
  unfold dstB at hD
  unfold laterB at hL
  simp only [Bool.and_eq_true, List.all_eq_true] at hD hL
  rcases List.mem_cons.1 hx with rfl | hx
  ·cases hd : x.dst with
   | none => rw [hd] at hD; cases hD.1
   | some d =>
    rw [hd] at hD
    simp only [Bool.and_eq_true, decide_eq_true_eq, List.all_eq_true, bne_iff_ne] at hD
    obtain ⟨hg, j, hj⟩ := hG x (List.mem_cons_self ..)
    refine ⟨v, d, rfl, ?_, fun u hu => ?_⟩
    ·rw [last_slot l _ h' hD.1.2, hd]
     exact put_get a d v (by rw [hN]; exact hD.1.1)
    ·rcases hy with ⟨_, hv⟩ | ⟨hw, _⟩
     ·have e : execOp A.eval x = execOp a.eval x := exec_slot (ops := ops) (hsel j x · · hj) fun t ht => last_slot (x :: l) a h fun o' ho' e => by
       have := hL.1 o' ho'
       rw [e] at this
       simp only [Bool.not_eq_true'] at this
       have h2 : (x.looksAt ops).contains t = true := by simpa using ht
       rw [h2] at this
       cases this
      have := hv u hu
      unfold Oper.quietAt at this ⊢
      rw [e]
      exact this
     ·rw [wanted_free a hg] at hw; cases hw
  ·exact quiet_at hsel l _ h' ((put_size ..).trans hN) hD.2 hL.2 (fun o' ho' => hG o' (List.mem_cons_of_mem _ ho')) x hx
def Ag (ops : Array Oper) (A : Act) (got : Array Bool) (a : Act) : Prop :=
 a.tmps.size = A.tmps.size ∧ a.defers = A.defers ∧ ∀ t, (∀ (j : Nat) o, ops[j]? = some o → o.dst = some t → got.getD j true = true) → a.tmps[t]? = A.tmps[t]?
def pend (ops : Array Oper) (got : Array Bool) : Nat := ((List.range ops.size).filter fun j => !got.getD j true).length
theorem pend_set {got : Array Bool} {i : Nat} (hi : i < ops.size) (hs : got.size = ops.size) (hg : got.getD i true = false) : pend ops (got.setIfInBounds i true) + 1 = pend ops got := by
 unfold pend
 have key : ∀ l : List Nat, l.Nodup → i ∈ l → (l.filter fun j => !(got.setIfInBounds i true).getD j true).length + 1 = (l.filter fun j => !got.getD j true).length := by
  intro l
  induction l with
  | nil => intro _ h; cases h
  | cons x l ih =>
   intro hn hm
   rw [List.nodup_cons] at hn
   by_cases e : x = i
   ·subst e
    have h1 : (got.setIfInBounds x true).getD x true = true := by simp [hs, hi]
    have h2 : (l.filter fun j => !(got.setIfInBounds x true).getD j true) = l.filter fun j => !got.getD j true := List.filter_congr fun j hj => by
     have hne : x ≠ j := fun e => hn.1 (by rw [e]; exact hj)
     rw [getD_set_ne true hne]
    simp only [List.filter_cons, h1, hg, Bool.not_true, Bool.not_false, if_true, Bool.false_eq_true, if_false, List.length_cons, h2]
   ·have hm' : i ∈ l := (List.mem_cons.1 hm).resolve_left (fun h => e h.symm)
    have h1 : (got.setIfInBounds i true).getD x true = got.getD x true := getD_set_ne true (fun h => e h.symm)
    simp only [List.filter_cons, h1]
    split
    ·simp only [List.length_cons]; rw [← ih hn.2 hm']
    ·exact ih hn.2 hm'
 exact key _ List.nodup_range (List.mem_range.2 hi)
theorem pend_zero {got : Array Bool} (h : pend ops got = 0) {j : Nat} (hj : j < ops.size) : got.getD j true = true := by
 unfold pend at h
 have := List.length_eq_zero_iff.1 h
 rw [List.filter_eq_nil_iff] at this
 have := this j (List.mem_range.2 hj)
 simpa using this
theorem any_stores (ts : List Nat) (hsel : ∀ (j : Nat) (o : Oper) cs b, ops[j]? = some o → o.op ≠ .select cs b) (hgd : ∀ (j : Nat) o, ops[j]? = some o → o.guard = none)
  (hlow : ∀ (j : Nat) o, ops[j]? = some o → ∀ e ∈ o.after, Region.binds md e = true → e.on < j)
  (hwr : ∀ (j m : Nat) o o' t, ops[j]? = some o → ops[m]? = some o' → t ∈ o.looksAt ops → o'.dst = some t → ∃ e ∈ o.after, Region.binds md e = true ∧ e.on = m)
  (hone : ∀ (j m : Nat) o o' t, ops[j]? = some o → ops[m]? = some o' → o.dst = some t → o'.dst = some t → j = m)
  (htd : ∀ (k : Nat) j, ts[k]? = some j → ∃ o, ops[j]? = some o ∧ o.dst = none) (hti : ∀ (j : Nat) o, ops[j]? = some o → o.dst = none → ∃ k : Nat, ts[k]? = some j)
  (htw : ∀ (k : Nat) j i o, ts[k + 1]? = some j → ts[k]? = some i → ops[j]? = some o → ∃ e ∈ o.after, Region.binds md e = true ∧ e.on = i)
  (hq : ∀ (j : Nat) o d s, ops[j]? = some o → o.dst = some d → ∃ v, A.tmps[d]? = some v ∧ o.quietAt P A (fun u => u = U s) (U s) v)
  (hst : ∀ (k : Nat) j o, ts[k]? = some j → ops[j]? = some o → (∃ x, (execOp A.eval o).run P (U k) = .ok (.value x) (U (k + 1))) ∨ (execOp A.eval o).run P (U k) = .ok .skip (U (k + 1)))
  (hQ : Q .normal A (U ts.length)) :
  ∀ (f : Nat) (got : Array Bool) (a : Act) (s : Nat), got.size = ops.size → pend ops got = f → (∀ (k : Nat) j, ts[k]? = some j → (got.getD j true = true ↔ k < s)) → s ≤ ts.length → Ag ops A got a → wpAny P md ops Q f got a (U s)
 | 0, got, a, s, hz, hp, hts, hsl, hag => by
  have all : ∀ j, j < ops.size → got.getD j true = true := fun j hj => pend_zero hp hj
  have hs : s = ts.length := by
   rcases Nat.lt_or_ge s ts.length with h | h
   ·have hk : ts[s]? = some ts[s] := List.getElem?_eq_getElem h
    obtain ⟨o, ho, _⟩ := htd s _ hk
    have := (hts s _ hk).1 (all _ (Array.getElem?_eq_some_iff.1 ho).1)
    omega
   ·omega
  have ea : a = A := by
   obtain ⟨h1, h2, h3⟩ := hag
   cases a; cases A
   simp only [] at h1 h2 h3
   subst h2
   congr 1
   refine Array.ext_getElem? fun t => h3 t fun j o ho _ => all j (Array.getElem?_eq_some_iff.1 ho).1
  refine ⟨?_, by rw [ea, hs]; exact hQ⟩
  refine List.eq_nil_iff_forall_not_mem.2 fun j hj => ?_
  obtain ⟨h1, o, ho, _⟩ := mem_ready.1 hj
  rw [all j (Array.getElem?_eq_some_iff.1 ho).1] at h1
  cases h1
 | f + 1, got, a, s, hz, hp, hts, hsl, hag => by
  refine ⟨fun hr => ?_, fun i hi => ?_⟩
  ·exfalso
   -- the least that is not done is ready
   have hne : ∃ j, j < ops.size ∧ got.getD j true = false := by
    refine Classical.byContradiction fun hn => ?_
    have : pend ops got = 0 := by
     unfold pend
     rw [List.length_eq_zero_iff, List.filter_eq_nil_iff]
     intro j hj
     cases hg : got.getD j true with
     | true => simp
     | false => exact absurd ⟨j, List.mem_range.1 hj, hg⟩ hn
    omega
   have least : ∀ n j, j < n → j < ops.size → got.getD j true = false → ∃ m, m < ops.size ∧ got.getD m true = false ∧ ∀ x, x < m → got.getD x true = true := by
    intro n
    induction n with
    | zero => intro j h; omega
    | succ n ih =>
     intro j hj hjs hg
     by_cases h : ∃ x, x < j ∧ got.getD x true = false
     ·obtain ⟨x, hx, hgx⟩ := h
      exact ih x (by omega) (by omega) hgx
     ·refine ⟨j, hjs, hg, fun x hx => ?_⟩
      cases hgx : got.getD x true with
      | true => rfl
      | false => exact absurd ⟨x, hx, hgx⟩ h
   obtain ⟨j, hj, hg⟩ := hne
   obtain ⟨m, hm, hgm, hbelow⟩ := least (j + 1) j (by omega) hj hg
   have hom : ops[m]? = some ops[m] := Array.getElem?_eq_getElem hm
   have : m ∈ Region.ready md ops got := mem_ready.2 ⟨hgm, _, hom, fun e he hb => by
    have h1 := hlow m _ hom e he hb
    have h2 := hbelow _ h1
    have h3 : e.on < got.size := by rw [hz]; omega
    simpa [h3] using h2⟩
   rw [hr] at this
   cases this
  ·obtain ⟨hun, o, ho, hall⟩ := mem_ready.1 hi
   have his : i < ops.size := (Array.getElem?_eq_some_iff.1 ho).1
   have done : ∀ m, got.getD m false = true → got.getD m true = true := fun m h => by
    cases h2 : got.getD m true with
    | true => rfl
    | false => rw [getD_both h2] at h; cases h
   have he : execOp a.eval o = execOp A.eval o := exec_slot (ops := ops) (hsel i o · · ho) fun t ht => hag.2.2 t fun m o' ho' hd => by
    obtain ⟨e, he, hb, hon⟩ := hwr i m o o' t ho ho' ht hd
    exact done m (hon ▸ hall e he hb)
   have hp' : pend ops (got.setIfInBounds i true) = f := by have := pend_set (ops := ops) his hz hun; omega
   have hz' : (got.setIfInBounds i true).size = ops.size := by simp [hz]
   cases hd : o.dst with
   | some d =>
    obtain ⟨v, hv, hqa⟩ := hq i o d s ho hd
    have hy : YieldsIn P ops (fun u => u = U s) o v a := .inl ⟨wanted_free a (hgd i o ho), fun u hu => by
     subst hu
     unfold Oper.quietAt at hqa ⊢
     rw [he]
     exact hqa⟩
    refine wpOp_of_qOp (C := fun u => u = U s) (K := fun a' => a' = a.put o.dst v) rfl (fun a' w' hw' e => ?_) (YieldsIn.qOp ho hy rfl)
    subst e
    subst hw'
    refine any_stores ts hsel hgd hlow hwr hone htd hti htw hq hst hQ f _ _ s hz' hp' (fun k j hk => ?_) hsl ⟨(put_size ..).trans hag.1, (defers_put ..).trans hag.2.1, fun t ht => ?_⟩
    ·have hji : i ≠ j := fun e => by
      obtain ⟨o2, ho2, hd2⟩ := htd k j hk
      rw [← e, ho] at ho2
      cases ho2
      rw [hd] at hd2
      cases hd2
     rw [getD_set_ne true hji]
     exact hts k j hk
    ·rw [hd]
     by_cases e : d = t
     ·subst e
      have hlt : d < a.tmps.size := by
       rw [hag.1]
       exact (Array.getElem?_eq_some_iff.1 hv).1
      rw [put_get a d v hlt, hv]
     ·rw [put_other a d t v e]
      refine hag.2.2 t fun m o' ho' hd' => ?_
      have hmi : i ≠ m := fun h => by
       rw [← h, ho] at ho'
       cases ho'
       rw [hd] at hd'
       exact e (Option.some.inj hd')
      have := ht m o' ho' hd'
      rwa [getD_set_ne true hmi] at this
   | none =>
    obtain ⟨k, hk⟩ := hti i o ho hd
    have hks : k = s := by
     have h1 : ¬ k < s := fun h => by
      have := (hts k i hk).2 h
      rw [hun] at this
      cases this
     rcases Nat.eq_zero_or_pos k with h0 | h0
     ·omega
     ·obtain ⟨k', rfl⟩ : ∃ k', k = k' + 1 := ⟨k - 1, by omega⟩
      have hk' : ∃ m, ts[k']? = some m := by
       have hlt : k' + 1 < ts.length := (List.getElem?_eq_some_iff.1 hk).1
       exact ⟨_, List.getElem?_eq_getElem (by omega)⟩
      obtain ⟨m, hm⟩ := hk'
      obtain ⟨e, he', hb, hon⟩ := htw k' i m o hk hm ho
      have := (hts k' m hm).1 (done m (hon ▸ hall e he' hb))
      omega
    subst hks
    have hlt : k < ts.length := (List.getElem?_eq_some_iff.1 hk).1
    have IH : wpAny P md ops Q f (got.setIfInBounds i true) a (U (k + 1)) := by
     refine any_stores ts hsel hgd hlow hwr hone htd hti htw hq hst hQ f _ _ (k + 1) hz' hp' (fun k2 j hk2 => ?_) hlt ⟨hag.1, hag.2.1, fun t ht => hag.2.2 t fun m o' ho' hd' => ?_⟩
     ·by_cases e : i = j
      ·subst e
       have h1 : (got.setIfInBounds i true).getD i true = true := by simp [hz, his]
       have h2 : ¬ k2 < k := fun h => by
        have := (hts k2 i hk2).2 h
        rw [hun] at this
        cases this
       refine ⟨fun _ => ?_, fun _ => h1⟩
       rcases Nat.lt_or_ge k k2 with h3 | h3
       ·obtain ⟨k3, rfl⟩ : ∃ k3, k2 = k3 + 1 := ⟨k2 - 1, by omega⟩
        obtain ⟨m, hm⟩ : ∃ m, ts[k3]? = some m := by
         have hlt2 : k3 + 1 < ts.length := (List.getElem?_eq_some_iff.1 hk2).1
         exact ⟨_, List.getElem?_eq_getElem (by omega)⟩
        obtain ⟨e, he', hb, hon⟩ := htw k3 i m o hk2 hm ho
        have := (hts k3 m hm).1 (done m (hon ▸ hall e he' hb))
        omega
       ·omega
      ·rw [getD_set_ne true e, hts k2 j hk2]
       refine ⟨fun h => by omega, fun h => ?_⟩
       rcases Nat.lt_or_ge k2 k with h2 | h2
       ·exact h2
       ·have : k2 = k := by omega
        subst this
        rw [hk] at hk2
        exact absurd (Option.some.inj hk2) e
     ·have hmi : i ≠ m := fun h => by
       rw [← h, ho] at ho'
       cases ho'
       rw [hd] at hd'
       cases hd'
      have := ht m o' ho' hd'
      rwa [getD_set_ne true hmi] at this
    unfold wpOp
    simp only [ho]
    rw [if_pos (wanted_free a (hgd i o ho))]
    left
    unfold Oper.wp
    rw [he]
    rcases hst k i o hk ho with ⟨x, hx⟩ | hx
    ·rw [hx, Oper.upon_value, hd]
     exact IH
    ·rw [hx]
     show wpAny P md ops Q f _ (a.put o.dst undef) _
     rw [hd]
     exact IH
def storesB (md : Region.Mode) (ops : Array Oper) (ts : List Nat) : Bool :=
 Region.noSelect ops && ops.all (fun o => o.guard.isNone) &&
 (List.range ops.size).all (fun j => match ops[j]? with | some o => o.after.all fun e => !Region.binds md e || decide (e.on < j) | none => true) &&
 (List.range ops.size).all (fun j => (List.range ops.size).all fun m => match ops[j]?, ops[m]? with
  | some o, some o' => (match o'.dst with | some t => !(o.looksAt ops).contains t || o.after.any (fun e => Region.binds md e && e.on == m) | none => true) && (match o.dst with | some t => o'.dst != some t || j == m | none => true)
  | _, _ => true) &&
 ts.all (fun j => match ops[j]? with | some o => o.dst.isNone | none => false) &&
 (List.range ops.size).all (fun j => match ops[j]? with | some o => o.dst.isSome || ts.contains j | none => true) &&
 (List.range ts.length).all (fun k => match ts[k + 1]?, ts[k]? with | some j, some i => (match ops[j]? with | some o => o.after.any (fun e => Region.binds md e && e.on == i) | none => true) | _, _ => true)
def StAt (P : Program) (A : Act) (U : Nat → World) (k : Nat) : Option Oper → Prop
 | some o => (∃ x, (execOp A.eval o).run P (U k) = .ok (.value x) (U (k + 1))) ∨ (execOp A.eval o).run P (U k) = .ok .skip (U (k + 1))
 | none => False
def Sts (P : Program) (A : Act) (U : Nat → World) (ops : Array Oper) : Nat → List Nat → Prop
 | _, [] => True
 | k, j :: ts => StAt P A U k ops[j]? ∧ Sts P A U ops (k + 1) ts
theorem Sts.at_ : ∀ (ts : List Nat) (k : Nat), Sts P A U ops k ts → ∀ (m : Nat) j, ts[m]? = some j → StAt P A U (k + m) ops[j]?
 | [], k, h, m, j, hm => by simp at hm
 | x :: ts, k, h, 0, j, hm => by
  simp at hm
  subst hm
  exact h.1
 | x :: ts, k, h, m + 1, j, hm => by
  have := Sts.at_ ts (k + 1) h.2 m j (by simpa using hm)
  rwa [show k + (m + 1) = k + 1 + m by omega]
theorem reg_stores {id : Nat} {a : Act} {w : World} {l : List Oper} (U : Nat → World) (ts : List Nat) (N : Nat) (hm : P.follows .mixedOrders = true) (hU0 : U 0 = { w with drawn := w.drawn + 1 })
  (hB : storesB .any l.toArray ts = true) (hN : a.tmps.size = N) (hD : dstB N (l.filter fun o => o.dst.isSome) = true) (hL : laterB l.toArray (l.filter fun o => o.dst.isSome) = true)
  (h : ∃ A : Act, (∀ s (T : Type) (_ : Nonempty T) (f : T → World), (∀ x, f x = U s) → wpQuiet P l.toArray (fun w' => ∃ x, w' = f x) (fun a' => a' = A) (l.filter fun o => o.dst.isSome) a) ∧ Sts P A U l.toArray 0 ts ∧ Q .normal A (U ts.length)) : (Code.region id l.toArray true).wp P Q a w := by
 obtain ⟨A, h1, h2, h3⟩ := h
 refine wp_region_any hm ?_
 rw [← hU0]
 simp only [storesB, Bool.and_eq_true, Array.all_eq_true_iff_forall_mem, List.all_eq_true] at hB
 obtain ⟨⟨⟨⟨⟨⟨b1, b2⟩, b3⟩, b4⟩, b5⟩, b6⟩, b7⟩ := hB
 have rng : ∀ (j : Nat) o, l.toArray[j]? = some o → j ∈ List.range l.toArray.size := fun j o ho => List.mem_range.2 (Array.getElem?_eq_some_iff.1 ho).1
 have hsel := Region.noSelect_spec b1
 have hgd : ∀ (j : Nat) o, l.toArray[j]? = some o → o.guard = none := fun j o ho => by
  have := b2 o (Array.mem_of_getElem? ho)
  simpa using this
 have hlow : ∀ (j : Nat) o, l.toArray[j]? = some o → ∀ e ∈ o.after, Region.binds .any e = true → e.on < j := fun j o ho e he hb => by
  have := b3 j (rng j o ho)
  rw [ho] at this
  simp only [Array.all_eq_true_iff_forall_mem] at this
  have := this e he
  rw [hb] at this
  simpa using this
 have anyE : ∀ (o : Oper) (m : Nat), o.after.any (fun e => Region.binds .any e && e.on == m) = true → ∃ e ∈ o.after, Region.binds .any e = true ∧ e.on = m := fun o m h => by
  rw [Array.any_eq_true] at h
  obtain ⟨i, hi, hh⟩ := h
  simp only [Bool.and_eq_true, beq_iff_eq] at hh
  exact ⟨o.after[i], Array.getElem_mem hi, hh⟩
 have hwr : ∀ (j m : Nat) o o' t, l.toArray[j]? = some o → l.toArray[m]? = some o' → t ∈ o.looksAt l.toArray → o'.dst = some t → ∃ e ∈ o.after, Region.binds .any e = true ∧ e.on = m := fun j m o o' t ho ho' ht hd => by
  have := b4 j (rng j o ho) m (rng m o' ho')
  rw [ho, ho'] at this
  simp only [Bool.and_eq_true] at this
  have := this.1
  rw [hd] at this
  simp only [Bool.or_eq_true, Bool.not_eq_true'] at this
  rcases this with h | h
  ·have h2 : (o.looksAt l.toArray).contains t = true := by simpa using ht
   rw [h2] at h; cases h
  ·exact anyE o m h
 have hone : ∀ (j m : Nat) o o' t, l.toArray[j]? = some o → l.toArray[m]? = some o' → o.dst = some t → o'.dst = some t → j = m := fun j m o o' t ho ho' hd hd' => by
  have := b4 j (rng j o ho) m (rng m o' ho')
  rw [ho, ho'] at this
  simp only [Bool.and_eq_true] at this
  have := this.2
  rw [hd, hd'] at this
  simpa using this
 have htd : ∀ (k : Nat) j, ts[k]? = some j → ∃ o, l.toArray[j]? = some o ∧ o.dst = none := fun k j hk => by
  have := b5 j (List.mem_of_getElem? hk)
  cases ho : l.toArray[j]? with
  | none => rw [ho] at this; cases this
  | some o => rw [ho] at this; exact ⟨o, rfl, by simpa using this⟩
 have hti : ∀ (j : Nat) o, l.toArray[j]? = some o → o.dst = none → ∃ k : Nat, ts[k]? = some j := fun j o ho hd => by
  have := b6 j (rng j o ho)
  rw [ho] at this
  simp only [hd, Option.isSome_none, Bool.false_or] at this
  exact List.mem_iff_getElem?.1 (by simpa using this)
 have htw : ∀ (k : Nat) j i o, ts[k + 1]? = some j → ts[k]? = some i → l.toArray[j]? = some o → ∃ e ∈ o.after, Region.binds .any e = true ∧ e.on = i := fun k j i o hk hk' ho => by
  have := b7 k (List.mem_range.2 (List.getElem?_eq_some_iff.1 hk').1)
  rw [hk, hk'] at this
  simp only [ho] at this
  exact anyE o i this
 have hsz : A.defers = a.defers ∧ A.tmps.size = a.tmps.size := quiet_defers _ _ (h1 0 Unit ⟨()⟩ (fun _ => U 0) (fun _ => rfl))
 have hq : ∀ (j : Nat) o d s, l.toArray[j]? = some o → o.dst = some d → ∃ v, A.tmps[d]? = some v ∧ o.quietAt P A (fun u => u = U s) (U s) v := fun j o d s ho hd => by
  have hm' : o ∈ l.filter fun o => o.dst.isSome := List.mem_filter.2 ⟨by have := Array.mem_of_getElem? ho; simpa using this, by simp [hd]⟩
  have hC : (fun w' => ∃ x : Unit, w' = (fun _ : Unit => U s) x) = (fun u => u = U s) := by
   funext u
   exact propext ⟨fun ⟨_, e⟩ => e, fun e => ⟨(), e⟩⟩
  have h := h1 s Unit ⟨()⟩ (fun _ => U s) (fun _ => rfl)
  rw [hC] at h
  obtain ⟨v, d', hd', hv, hqa⟩ := quiet_at hsel _ a h hN hD hL (fun o' ho' => by
   obtain ⟨i, hi⟩ := List.mem_iff_getElem?.1 (List.mem_filter.1 ho').1
   have hi' : l.toArray[i]? = some o' := by simpa using hi
   exact ⟨hgd i o' hi', i, hi'⟩) o hm'
  rw [hd] at hd'
  cases hd'
  exact ⟨v, hv, hqa _ rfl⟩
 have hst : ∀ (k : Nat) j o, ts[k]? = some j → l.toArray[j]? = some o → (∃ x, (execOp A.eval o).run P (U k) = .ok (.value x) (U (k + 1))) ∨ (execOp A.eval o).run P (U k) = .ok .skip (U (k + 1)) := fun k j o hk ho => by
  have := Sts.at_ ts 0 h2 k j hk
  rw [ho, Nat.zero_add] at this
  exact this
 have hp0 : pend l.toArray (Array.replicate l.toArray.size false) = l.toArray.size := by
  unfold pend
  rw [List.filter_eq_self.2 fun j hj => ?_, List.length_range]
  have hj' := List.mem_range.1 hj
  have : (Array.replicate l.toArray.size false).getD j true = false := getD_in (by simpa using hj') (getD_replicate_false _ _)
  rw [this]; rfl
 refine any_stores ts hsel hgd hlow hwr hone htd hti htw hq hst h3 l.toArray.size (Array.replicate l.toArray.size false) a 0 (by simp) hp0 (fun k j hk => ⟨fun hg => ?_, fun h => by omega⟩) (Nat.zero_le _) ⟨hsz.2.symm, hsz.1.symm, fun t ht => ?_⟩
 ·obtain ⟨o, ho, _⟩ := htd k j hk
  have hj' := (Array.getElem?_eq_some_iff.1 ho).1
  have : (Array.replicate l.toArray.size false).getD j true = false := getD_in (by simpa using hj') (getD_replicate_false _ _)
  rw [this] at hg
  cases hg
 ·refine (last_slot _ a (h1 0 Unit ⟨()⟩ (fun _ => U 0) (fun _ => rfl)) fun o ho hd => ?_).symm
  obtain ⟨i, hi⟩ := List.mem_iff_getElem?.1 (List.mem_filter.1 ho).1
  have hi' : l.toArray[i]? = some o := by simpa using hi
  have hj' := (Array.getElem?_eq_some_iff.1 hi').1
  have h5 := ht i o hi' hd
  have : (Array.replicate l.toArray.size false).getD i true = false := getD_in (by simpa using hj') (getD_replicate_false _ _)
  rw [this] at h5
  cases h5
end
end Go.Proofs.YtgdcphmmehedoaaGreat.Fx.RS