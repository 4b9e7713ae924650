/- WsC OrA OrF -/
import Derived.Test.YtfncelifflebbaaGreatV22
import Derived.Test.YtfncelifflebbaaGreatV29
import Derived.Test.YtfncelifflebbaaGreatV31
import Derived.BigQuiet

/- Copies of a world, each in a stretch of blocks of its own. -/



namespace Go.Proofs.YtfncelifflebbaaGreat.Fx
open Go.ChangeShapes Go.WideShapes Go.ChangeAt Go.RowKit
set_option linter.unusedVariables false

def SameBs (B B' : List Bd) : Prop := B'.length = B.length ∧ ∀ (i : Nat) b b', B[i]? = some b → B'[i]? = some b' → SameB b b'
def CopyV (P : PW) (v : World) (lo : Nat) (e : MI.Ex) : Prop :=
  ∃ ob oj cb cj, e.v = wdV 0 P.nb P.nj 0 0 (.slice ob P.B.length cb) (.slice oj P.J.length cj) (.slice none 0 0) ∧ SameBs P.B e.bs ∧ WLs (fun b => b < lo ∨ e.hi ≤ b) v ob cb e.bs oj cj P.J none 0 [] ∧
    (0 < P.B.length → ∃ g, ob = some ⟨g, 0, none⟩ ∧ RowL encB 11 v g 35 P.B.length e.bs) ∧ (0 < P.B.length → 0 < P.J.length → ∀ g o s o' s', ob = some ⟨g, o, s⟩ → oj = some ⟨g, o', s'⟩ → False) ∧ (0 < P.J.length → ∃ g, oj = some ⟨g, 0, none⟩) ∧ ∀ b ∈ e.bs, Mine (fun g => ob = some ⟨g, 0, none⟩ ∨ oj = some ⟨g, 0, none⟩) lo v b
theorem CopyV.kept {P : PW} {u v : World} {lo : Nat} {e : MI.Ex} (h : CopyV P u lo e) (hh : e.hi ≤ u.heap.size) (k : Made u.heap.size u v) : CopyV P v lo e := by
  obtain ⟨ob, oj, cb, cj, h1, h2, h3, h4, h6, h7, h5⟩ := h
  refine ⟨ob, oj, cb, cj, h1, h2, h3.kept k, fun hn => ?_, h6, h7, fun b hb => MadeMine (h5 b hb) k⟩
  obtain ⟨g, e, hr⟩ := h4 hn
  exact ⟨g, e, hr.stays k hr.here⟩
theorem same_in {B B' : List Bd} (h : SameBs B B') {b' : Bd} (hb : b' ∈ B') : ∃ b ∈ B, SameB b b' := by
  obtain ⟨i, hi⟩ := List.mem_iff_getElem?.1 hb
  obtain ⟨b, hb, hs⟩ := same_at rfl h.1 h.2 hi
  exact ⟨b, List.mem_of_getElem? hb, hs⟩
theorem SameB.ok {b b' : Bd} (h : SameB b b') (k : BodyP b) : BodyP b' := by
  obtain ⟨h0, h1, h2, h3, h4, h5, h6, h7, h8, h9, h10, h11⟩ := h
  refine ⟨?_, ?_, ?_, ?_, ?_, ?_, ?_, ?_, ?_⟩
  · rw [h8, h9, h10, h11]; exact k.shape
  · rw [h1]; exact k.x
  · rw [h2]; exact k.y
  · rw [h3]; exact k.vx
  · rw [h4]; exact k.vy
  · rw [h6]; exact k.sp
  · rw [h5]; exact k.an
  · rw [h7]; exact k.de
  · rw [h7, h3, h4, h6]; exact k.still
theorem SameB.eqb {b b' : Bd} (h : SameB b b') : EqB b b' := by
  obtain ⟨h0, h1, h2, h3, h4, h5, h6, h7, h8, h9, h10, h11⟩ := h
  exact ⟨h0.symm, ⟨h1.symm, h2.symm⟩, ⟨h3.symm, h4.symm⟩, h5.symm, h6.symm, h7.symm, h8.symm, h9.symm, h10.symm, fun i _ => by rw [h11]⟩
theorem EqB.symm {b b' : Bd} (h : EqB b b') : EqB b' b := by
  obtain ⟨h0, h1, h2, h3, h4, h5, h6, h7, h8, h9⟩ := h
  exact ⟨h0.symm, ⟨h1.1.symm, h1.2.symm⟩, ⟨h2.1.symm, h2.2.symm⟩, h3.symm, h4.symm, h5.symm, h6.symm, h7.symm, h8.symm, fun i hi => (h9 i (h8 ▸ hi)).symm⟩
theorem EqB.trans {a b c : Bd} (h : EqB a b) (k : EqB b c) : EqB a c := by
  obtain ⟨h0, h1, h2, h3, h4, h5, h6, h7, h8, h9⟩ := h
  obtain ⟨k0, k1, k2, k3, k4, k5, k6, k7, k8, k9⟩ := k
  exact ⟨h0.trans k0, ⟨h1.1.trans k1.1, h1.2.trans k1.2⟩, ⟨h2.1.trans k2.1, h2.2.trans k2.2⟩, h3.trans k3, h4.trans k4, h5.trans k5, h6.trans k6, h7.trans k7, h8.trans k8, fun i hi => (h9 i hi).trans (k9 i (h8 ▸ hi))⟩
theorem SameBs.eq {B B' : List Bd} (h : SameBs B B') : EqBs B B' := ⟨h.1.symm, fun i x y hx hy => (h.2 i x y hx hy).eqb⟩
theorem EqBs.symm {B B' : List Bd} (h : EqBs B B') : EqBs B' B := ⟨h.1.symm, fun i x y hx hy => (h.2 i y x hy hx).symm⟩
theorem EqBs.trans {A B C : List Bd} (h : EqBs A B) (k : EqBs B C) : EqBs A C := ⟨h.1.trans k.1, fun i x z hx hz => by
  have hi := (List.getElem?_eq_some_iff.1 hx).1
  have hy : B[i]? = some (B[i]'(by rw [← h.1]; exact hi)) := List.getElem?_eq_getElem _
  exact (h.2 i _ _ hx hy).trans (k.2 i _ _ hy hz)⟩
theorem copy_ok {P : PW} {B' : List Bd} (h : POk P) (hC : P.C = []) (hs : SameBs P.B B') : POk ⟨P.nb, P.nj, B', P.J, []⟩ := by
  have e : ids B' = ids P.B := same_ids rfl hs.1 hs.2
  refine ⟨⟨by show B'.length ≤ _; rw [hs.1]; exact h.hB.len, fun b hb => ?_, ?_⟩, ⟨h.hJ.len, fun j hj => ?_, h.hJ.num⟩, ⟨fun c hc => by simp at hc, List.Pairwise.nil⟩⟩
  · obtain ⟨b0, hb0, hs0⟩ := same_in hs hb
    exact hs0.ok (h.hB.all b0 hb0)
  · show NumP (ids B') P.nb
    rw [e]
    exact h.hB.num
  · have := h.hJ.all j hj
    refine ⟨this.1, ?_, ?_⟩
    · show j.a ∈ ids B'; rw [e]; exact this.2.1
    · show j.b ∈ ids B'; rw [e]; exact this.2.2
theorem copy_mk {P : PW} {X : Nat → Prop} {w : World} (ob oj : Option Addr) (cb cj nB nJ : Nat) (nb nj : Int) (hP : POk P) (hE : P.B.length = nB ∧ P.J.length = nJ ∧ P.nb = nb ∧ P.nj = nj) (hL : WLs X w ob cb P.B oj cj P.J none 0 []) :
    Calls Tryz.prog 14 #[wdV 0 nb nj 0 0 (.slice ob nB cb) (.slice oj nJ cj) (.slice none 0 0)] w fun e v => ∃ g ex, e = .returned ex.v ∧ w.heap.size ≤ g ∧ g ≤ ex.hi ∧ ex.hi ≤ v.heap.size ∧ CopyV P v g ex ∧ Made w.heap.size w v := by
  obtain ⟨e1, e2, e3, e4⟩ := hE
  refine (wcopy_x 0 nb nj 0 0 ob oj none nB cb nJ cj 0 0 hL e1 e2 rfl (by have := hP.hB.len; omega) (by have := hP.hJ.len; omega) (by omega) (n8_of hP)).mono ?_
  rintro e v ⟨B', ob', oj', oc', cb', cj', cc', rfl, k, hl, hs, hB, hJ, hC, hO, hN, hM⟩
  obtain ⟨rfl, rfl⟩ := hN rfl
  have hsm : SameBs P.B B' := ⟨by rw [hl, e1], hs⟩
  have off : ∀ {α : Type} {enc : α → List Value} {kk n c : Nat} {t : TypeId} {ao : Option Addr} {l : List α}, NewL enc kk t w v ao n c l → 0 < l.length → Offs (fun b => b < w.heap.size ∨ v.heap.size ≤ b) ao := fun h hn b off s e hx => by
    have h1 := h.fresh b off s e
    obtain ⟨b2, o2, e2, hl2, _⟩ := h.ls hn
    rw [e] at e2
    cases e2
    omega
  have okS : ∀ {α : Type} {enc : α → List Value} {kk n c : Nat} {t : TypeId} {ao : Option Addr} {l : List α}, NewL enc kk t w v ao n c l → SlOk ao l.length c := fun h => by rw [h.len]; exact ⟨h.nc, h.cm, h.ok⟩
  refine ⟨w.heap.size, ⟨v.heap.size, _, B'⟩, rfl, Nat.le_refl _, k.1.size, Nat.le_refl _, ⟨ob', oj', cb', cj', by rw [e1, e2, e3, e4], hsm, ?_, ?_, ?_, ?_, ?_⟩, k⟩
  · refine ⟨⟨hB.ls, hJ.ls, fun h => absurd h (by simp), fun b hb => ?_, hL.at_.iJ, fun c hc => by simp at hc⟩, okS hB, okS hJ, ⟨Nat.le_refl _, by unfold maxLen; omega, .inl ⟨rfl, rfl, rfl⟩⟩, off hB, off hJ, fun h => absurd h (by simp), fun b hb hn b' off s e hx => ?_, fun b hb => ?_⟩
    · obtain ⟨b0, hb0, hs0⟩ := same_in hsm hb
      exact ⟨(hM b hb).1, hs0.i (hL.at_.sB b0 hb0).2⟩
    · have hx : b' < w.heap.size ∨ v.heap.size ≤ b' := hx
      rcases (hM b hb).2 with ⟨h, _⟩ | ⟨g, h, h3, h4, h5, _⟩
      · rw [h] at e; cases e
      · rw [h] at e; cases e; omega
    · rcases (hM b hb).2 with ⟨h1, h2, h3⟩ | ⟨g, h, _⟩
      · exact .inl ⟨h1, h2, h3⟩
      · exact .inr ⟨_, h⟩
  · intro hn
    obtain ⟨g, e, hr⟩ := hB.row (by rw [← e1]; exact hn)
    exact ⟨g, e, by rw [e1]; exact hr⟩
  · intro h1 h2 g o s o' s' e e'
    obtain ⟨g1, e1', hr1⟩ := hB.row (by rw [← e1]; exact h1)
    obtain ⟨g2, e2', hr2⟩ := hJ.row (by rw [← e2]; exact h2)
    rw [e1'] at e
    rw [e2'] at e'
    cases e
    cases e'
    obtain ⟨_, A, hA, _⟩ := hr1
    obtain ⟨_, A2, hA2, _⟩ := hr2
    have := hA.symm.trans hA2
    simp at this
  · intro h2
    obtain ⟨g2, e2', hr2⟩ := hJ.row (by rw [← e2]; exact h2)
    exact ⟨g2, e2'⟩
  · intro b hb
    exact (hM b hb).more (fun g hg => .inl (hg.elim .inl (fun hg => .inr (.inl hg))))
abbrev Out (lo hi : Nat) : Nat → Prop := fun b => b < lo ∨ hi ≤ b
def turnB (ao : Option Addr) (p : Int) (b : Bd) : Bd := ⟨b.id, b.x, b.y, b.vx, b.vy, b.an, b.sp, b.de, b.k, b.r, b.ao, b.n, b.c, open Classical in if b.ao = ao ∧ 0 < b.n then fun i => if i = 0 then (p, (b.f 0).2) else b.f i else b.f⟩
end Go.Proofs.YtfncelifflebbaaGreat.Fx


/- Orders, plain. -/

namespace Go.Proofs.YtfncelifflebbaaGreat.Fx
open Go.ChangeShapes Go.WideShapes Go.ChangeAt Go.RowKit
set_option linter.unusedVariables false

structure Or where
  kd : Int
  id : Int
  a : Int
  b : Int
  x : Int
  y : Int
  vx : Int
  vy : Int
  an : Int
  sp : Int
  de : Int
  ln : Int
  k : Int
  r : Int
  ao : Option Addr
  n : Nat
  c : Nat
  f : Cs
abbrev orV (o : Or) : Value := .agg #[.int .i64 o.kd, .int .i64 o.id, .int .i64 o.a, .int .i64 o.b, .int .i64 o.x, .int .i64 o.y, .int .i64 o.vx, .int .i64 o.vy, .int .i64 o.an, .int .i64 o.sp, .int .i64 o.de, .int .i64 o.ln, .int .i64 o.k, .int .i64 o.r, .slice o.ao o.n o.c]
def encO (o : Or) : List Value := [.int .i64 o.kd, .int .i64 o.id, .int .i64 o.a, .int .i64 o.b, .int .i64 o.x, .int .i64 o.y, .int .i64 o.vx, .int .i64 o.vy, .int .i64 o.an, .int .i64 o.sp, .int .i64 o.de, .int .i64 o.ln, .int .i64 o.k, .int .i64 o.r, .slice o.ao o.n o.c]
structure OrI (o : Or) : Prop where
  kd : I64 o.kd
  id : I64 o.id
  a : I64 o.a
  b : I64 o.b
  x : I64 o.x
  y : I64 o.y
  vx : I64 o.vx
  vy : I64 o.vy
  an : I64 o.an
  sp : I64 o.sp
  de : I64 o.de
  ln : I64 o.ln
  k : I64 o.k
  r : I64 o.r
  f : Cin o.f o.n
def bodyOr (o : Or) : Bd := ⟨0, o.x, o.y, o.vx, o.vy, o.an, o.sp, o.de, o.k, o.r, o.ao, o.n, o.c, o.f⟩
def jointOr (o : Or) : Jt := ⟨0, o.a, o.b, o.x, o.y, o.vx, o.vy, o.ln⟩
theorem OrI.body {o : Or} (h : OrI o) : BdI (bodyOr o) := ⟨i64_0, h.x, h.y, h.vx, h.vy, h.an, h.sp, h.de, h.k, h.r, h.f⟩
theorem OrI.joint {o : Or} (h : OrI o) : JtI (jointOr o) := ⟨i64_0, h.a, h.b, h.x, h.y, h.vx, h.vy, h.ln⟩
def Or.kind (k : Int) : Or := ⟨k, 0, 0, 0, 0, 0, 0, 0, 0, 0, 0, 0, 0, 0, none, 0, 0, fun _ => (0, 0)⟩
def usedOr (o : Or) : Or :=
  if o.kd = 1 then ⟨1, 0, 0, 0, o.x, o.y, o.vx, o.vy, o.an, o.sp, o.de, 0, o.k, o.r, o.ao, o.n, o.c, o.f⟩
  else if o.kd = 2 ∨ o.kd = 4 then { Or.kind o.kd with id := o.id }
  else if o.kd = 3 then ⟨3, 0, o.a, o.b, o.x, o.y, o.vx, o.vy, 0, 0, 0, o.ln, 0, 0, none, 0, 0, fun _ => (0, 0)⟩
  else if o.kd = 5 then ⟨5, o.id, 0, 0, 0, 0, o.vx, o.vy, 0, o.sp, 0, 0, 0, 0, none, 0, 0, fun _ => (0, 0)⟩
  else if o.kd = 6 then ⟨6, 0, 0, 0, 0, 0, o.vx, o.vy, 0, 0, 0, 0, 0, 0, none, 0, 0, fun _ => (0, 0)⟩
  else Or.kind o.kd
def BareO (o : Or) : Prop := o.k = 0 ∧ o.r = 0 ∧ o.n = 0 ∧ o.de = 0 ∧ o.an = 0
def OrderP (o : Or) : Prop :=
  (o.kd = 1 ∧ o.id = 0 ∧ o.a = 0 ∧ o.b = 0 ∧ o.ln = 0 ∧ BodyP (bodyOr o)) ∨
  ((o.kd = 2 ∨ o.kd = 4) ∧ BareO o ∧ 0 < o.id ∧ o.a = 0 ∧ o.b = 0 ∧ (o.x = 0 ∧ o.y = 0) ∧ (o.vx = 0 ∧ o.vy = 0) ∧ o.sp = 0 ∧ o.ln = 0) ∨
  (o.kd = 3 ∧ BareO o ∧ o.id = 0 ∧ o.sp = 0 ∧ JointP (jointOr o)) ∨
  (o.kd = 5 ∧ BareO o ∧ 0 < o.id ∧ o.a = 0 ∧ o.b = 0 ∧ (o.x = 0 ∧ o.y = 0) ∧ o.ln = 0 ∧ Inn o.vx 4611686018427387904 ∧ Inn o.vy 4611686018427387904 ∧ Inn o.sp 4611686018427387904) ∨
  (o.kd = 6 ∧ BareO o ∧ o.id = 0 ∧ o.a = 0 ∧ o.b = 0 ∧ (o.x = 0 ∧ o.y = 0) ∧ o.sp = 0 ∧ o.ln = 0 ∧ Inn o.vx 17592186044416 ∧ Inn o.vy 17592186044416)
end Go.Proofs.YtfncelifflebbaaGreat.Fx


/- order.body, order.joint, order.fits. -/


namespace Go.Proofs.YtfncelifflebbaaGreat.Fx
open Go.ChangeShapes Go.WideShapes Go.ChangeAt Go.RowKit
set_option linter.unusedVariables false

set_option maxRecDepth 100000 in
set_option maxHeartbeats 16000000 in
theorem obody_c (kd id a b x y vx vy an sp de ln k r : Int) (ao : Option Addr) (n c : Nat) (w : World) :
    Calls Tryz.prog 76 #[.agg #[.int .i64 kd, .int .i64 id, .int .i64 a, .int .i64 b, .int .i64 x, .int .i64 y, .int .i64 vx, .int .i64 vy, .int .i64 an, .int .i64 sp, .int .i64 de, .int .i64 ln, .int .i64 k, .int .i64 r, .slice ao n c]] w fun e v => e = .returned (bodyV 0 x y vx vy an sp de k r (.slice ao n c)) ∧ Made w.heap.size w v := by
  obtain ⟨W, eW⟩ : ∃ W, W = (w.alloc (.cells #[.int .i64 kd, .int .i64 id, .int .i64 a, .int .i64 b, .int .i64 x, .int .i64 y, .int .i64 vx, .int .i64 vy, .int .i64 an, .int .i64 sp, .int .i64 de, .int .i64 ln, .int .i64 k, .int .i64 r, .slice ao n c] 29)).alloc (.cells #[.int .i64 0, .int .i64 0, .int .i64 0, .int .i64 0, .int .i64 0, .int .i64 0, .int .i64 0, .int .i64 0, .int .i64 0, .int .i64 0, .slice none 0 0] 35) := ⟨_, rfl⟩
  have KW : Hid (Made w.heap.size w W) := by unfold Hid; rw [eW]; exact ((Made.rfl_ _ _).cells (Nat.le_refl _) _ _).cells (by simp) _ _
  have HB : Hid (Has W w.heap.size 29 #[.int .i64 kd, .int .i64 id, .int .i64 a, .int .i64 b, .int .i64 x, .int .i64 y, .int .i64 vx, .int .i64 vy, .int .i64 an, .int .i64 sp, .int .i64 de, .int .i64 ln, .int .i64 k, .int .i64 r, .slice ao n c]) := by unfold Hid; rw [eW]; exact (has_new _ _ _).more _
  have HR : Hid (Has W (w.heap.size + 1) 35 #[.int .i64 0, .int .i64 0, .int .i64 0, .int .i64 0, .int .i64 0, .int .i64 0, .int .i64 0, .int .i64 0, .int .i64 0, .int .i64 0, .slice none 0 0]) := by unfold Hid; rw [eW]; exact has_nxt' _ _ _ _
  obtain ⟨g1, eg1⟩ : ∃ g, w.heap.size = g := ⟨_, rfl⟩
  obtain ⟨g2, eg2⟩ : ∃ g, g1 + 1 = g := ⟨_, rfl⟩
  have hw2 : w.heap.size ≤ g2 := by omega
  rw [eg1] at HB
  rw [eg1, eg2] at HR
  have b0 := HB.out.at_ 0
  have b1 := HB.out.at_ 1
  have b2 := HB.out.at_ 2
  have b3 := HB.out.at_ 3
  have b4 := HB.out.at_ 4
  have b5 := HB.out.at_ 5
  have b6 := HB.out.at_ 6
  have b7 := HB.out.at_ 7
  have b8 := HB.out.at_ 8
  have b9 := HB.out.at_ 9
  have b10 := HB.out.at_ 10
  have b11 := HB.out.at_ 11
  have b12 := HB.out.at_ 12
  have b13 := HB.out.at_ 13
  have b14 := HB.out.at_ 14
  simp at b0 b1 b2 b3 b4 b5 b6 b7 b8 b9 b10 b11 b12 b13 b14
  have l1 : g1 < W.heap.size := HB.out.here
  have r_0 := HR.out.at_ 0
  have r_1 := HR.out.at_ 1
  have r_2 := HR.out.at_ 2
  have r_3 := HR.out.at_ 3
  have r_4 := HR.out.at_ 4
  have r_5 := HR.out.at_ 5
  have r_6 := HR.out.at_ 6
  have r_7 := HR.out.at_ 7
  have r_8 := HR.out.at_ 8
  have r_9 := HR.out.at_ 9
  have r_10 := HR.out.at_ 10
  simp at r_0 r_1 r_2 r_3 r_4 r_5 r_6 r_7 r_8 r_9 r_10
  have l2 : g2 < W.heap.size := HR.out.here
  have f2 : ∀ i, W.frozen? ⟨g2, i, none⟩ = false := HR.out.free
  go_enter Tryz.func76, Tryz.ntmps76
  go_upto_region 1 with fail
  rw [← eW]
  clear eW
  try rw [eg1]
  try rw [eg2]
  go_wp2_with fail
  obtain ⟨V, eV⟩ : ∃ V, V = (((((((((((W).setCell ⟨g2, 0, none⟩ (.int .i64 0)).setCell ⟨g2, 1, none⟩ (.int .i64 x)).setCell ⟨g2, 2, none⟩ (.int .i64 y)).setCell ⟨g2, 3, none⟩ (.int .i64 vx)).setCell ⟨g2, 4, none⟩ (.int .i64 vy)).setCell ⟨g2, 5, none⟩ (.int .i64 an)).setCell ⟨g2, 6, none⟩ (.int .i64 sp)).setCell ⟨g2, 7, none⟩ (.int .i64 de)).setCell ⟨g2, 8, none⟩ (.int .i64 k)).setCell ⟨g2, 9, none⟩ (.int .i64 r)).setCell ⟨g2, 10, none⟩ (.slice ao n c) := ⟨_, rfl⟩
  have kV : But (fun b => b = g2) W V := by rw [eV]; exact ((((((((((((But.rfl_ (fun b => b = g2) W).put (p := ⟨g2, 0, none⟩) (.inl rfl) _).put (p := ⟨g2, 1, none⟩) (.inl rfl) _).put (p := ⟨g2, 2, none⟩) (.inl rfl) _).put (p := ⟨g2, 3, none⟩) (.inl rfl) _).put (p := ⟨g2, 4, none⟩) (.inl rfl) _).put (p := ⟨g2, 5, none⟩) (.inl rfl) _).put (p := ⟨g2, 6, none⟩) (.inl rfl) _).put (p := ⟨g2, 7, none⟩) (.inl rfl) _).put (p := ⟨g2, 8, none⟩) (.inl rfl) _).put (p := ⟨g2, 9, none⟩) (.inl rfl) _).put (p := ⟨g2, 10, none⟩) (.inl rfl) _)
  have hV : Has V g2 35 #[.int .i64 0, .int .i64 x, .int .i64 y, .int .i64 vx, .int .i64 vy, .int .i64 an, .int .i64 sp, .int .i64 de, .int .i64 k, .int .i64 r, .slice ao n c] := by rw [eV]; exact HR.out.put11 _ _ _ _ _ _ _ _ _ _ _ 
  have KV : Made w.heap.size w V := But.made_ KW.out kV KW.out.1.size (fun b hb => by have hb : b = g2 := hb; omega)
  try rw [← eV]
  clear eV b0 b1 b2 b3 b4 b5 b6 b7 b8 b9 b10 b11 b12 b13 b14 l1 r_0 r_1 r_2 r_3 r_4 r_5 r_6 r_7 r_8 r_9 r_10 l2 f2
  have q0 := hV.at_ 0
  have q1 := hV.at_ 1
  have q2 := hV.at_ 2
  have q3 := hV.at_ 3
  have q4 := hV.at_ 4
  have q5 := hV.at_ 5
  have q6 := hV.at_ 6
  have q7 := hV.at_ 7
  have q8 := hV.at_ 8
  have q9 := hV.at_ 9
  have q10 := hV.at_ 10
  simp at q0 q1 q2 q3 q4 q5 q6 q7 q8 q9 q10
  exact bodyPost_ret (v := bodyV 0 x y vx vy an sp de k r (.slice ao n c)) (by simp [results, Tryz.results76, go_sem, q0, q1, q2, q3, q4, q5, q6, q7, q8, q9, q10]) rfl ⟨rfl, KV⟩
set_option maxRecDepth 100000 in
set_option maxHeartbeats 16000000 in
theorem ojoint_c (kd id a b x y vx vy an sp de ln k r : Int) (ao : Option Addr) (n c : Nat) (w : World) :
    Calls Tryz.prog 77 #[.agg #[.int .i64 kd, .int .i64 id, .int .i64 a, .int .i64 b, .int .i64 x, .int .i64 y, .int .i64 vx, .int .i64 vy, .int .i64 an, .int .i64 sp, .int .i64 de, .int .i64 ln, .int .i64 k, .int .i64 r, .slice ao n c]] w fun e v => e = .returned (.agg #[.int .i64 0, .int .i64 a, .int .i64 b, .int .i64 x, .int .i64 y, .int .i64 vx, .int .i64 vy, .int .i64 ln]) ∧ Made w.heap.size w v := by
  obtain ⟨W, eW⟩ : ∃ W, W = (w.alloc (.cells #[.int .i64 kd, .int .i64 id, .int .i64 a, .int .i64 b, .int .i64 x, .int .i64 y, .int .i64 vx, .int .i64 vy, .int .i64 an, .int .i64 sp, .int .i64 de, .int .i64 ln, .int .i64 k, .int .i64 r, .slice ao n c] 29)).alloc (.cells #[.int .i64 0, .int .i64 0, .int .i64 0, .int .i64 0, .int .i64 0, .int .i64 0, .int .i64 0, .int .i64 0] 60) := ⟨_, rfl⟩
  have KW : Hid (Made w.heap.size w W) := by unfold Hid; rw [eW]; exact ((Made.rfl_ _ _).cells (Nat.le_refl _) _ _).cells (by simp) _ _
  have HB : Hid (Has W w.heap.size 29 #[.int .i64 kd, .int .i64 id, .int .i64 a, .int .i64 b, .int .i64 x, .int .i64 y, .int .i64 vx, .int .i64 vy, .int .i64 an, .int .i64 sp, .int .i64 de, .int .i64 ln, .int .i64 k, .int .i64 r, .slice ao n c]) := by unfold Hid; rw [eW]; exact (has_new _ _ _).more _
  have HR : Hid (Has W (w.heap.size + 1) 60 #[.int .i64 0, .int .i64 0, .int .i64 0, .int .i64 0, .int .i64 0, .int .i64 0, .int .i64 0, .int .i64 0]) := by unfold Hid; rw [eW]; exact has_nxt' _ _ _ _
  obtain ⟨g1, eg1⟩ : ∃ g, w.heap.size = g := ⟨_, rfl⟩
  obtain ⟨g2, eg2⟩ : ∃ g, g1 + 1 = g := ⟨_, rfl⟩
  have hw2 : w.heap.size ≤ g2 := by omega
  rw [eg1] at HB
  rw [eg1, eg2] at HR
  have b_0 := HB.out.at_ 0
  have b_1 := HB.out.at_ 1
  have b_2 := HB.out.at_ 2
  have b_3 := HB.out.at_ 3
  have b_4 := HB.out.at_ 4
  have b_5 := HB.out.at_ 5
  have b_6 := HB.out.at_ 6
  have b_7 := HB.out.at_ 7
  have b_8 := HB.out.at_ 8
  have b_9 := HB.out.at_ 9
  have b_10 := HB.out.at_ 10
  have b_11 := HB.out.at_ 11
  have b_12 := HB.out.at_ 12
  have b_13 := HB.out.at_ 13
  have b_14 := HB.out.at_ 14
  simp at b_0 b_1 b_2 b_3 b_4 b_5 b_6 b_7 b_8 b_9 b_10 b_11 b_12 b_13 b_14
  have l1 : g1 < W.heap.size := HB.out.here
  have r_0 := HR.out.at_ 0
  have r_1 := HR.out.at_ 1
  have r_2 := HR.out.at_ 2
  have r_3 := HR.out.at_ 3
  have r_4 := HR.out.at_ 4
  have r_5 := HR.out.at_ 5
  have r_6 := HR.out.at_ 6
  have r_7 := HR.out.at_ 7
  simp at r_0 r_1 r_2 r_3 r_4 r_5 r_6 r_7
  have l2 : g2 < W.heap.size := HR.out.here
  have f2 : ∀ i, W.frozen? ⟨g2, i, none⟩ = false := HR.out.free
  go_enter Tryz.func77, Tryz.ntmps77
  go_upto_region 1 with fail
  rw [← eW]
  clear eW
  try rw [eg1]
  try rw [eg2]
  go_wp2_with fail
  obtain ⟨V, eV⟩ : ∃ V, V = ((((((((W).setCell ⟨g2, 0, none⟩ (.int .i64 0)).setCell ⟨g2, 1, none⟩ (.int .i64 a)).setCell ⟨g2, 2, none⟩ (.int .i64 b)).setCell ⟨g2, 3, none⟩ (.int .i64 x)).setCell ⟨g2, 4, none⟩ (.int .i64 y)).setCell ⟨g2, 5, none⟩ (.int .i64 vx)).setCell ⟨g2, 6, none⟩ (.int .i64 vy)).setCell ⟨g2, 7, none⟩ (.int .i64 ln) := ⟨_, rfl⟩
  have kV : But (fun b => b = g2) W V := by rw [eV]; exact (((((((((But.rfl_ (fun b => b = g2) W).put (p := ⟨g2, 0, none⟩) (.inl rfl) _).put (p := ⟨g2, 1, none⟩) (.inl rfl) _).put (p := ⟨g2, 2, none⟩) (.inl rfl) _).put (p := ⟨g2, 3, none⟩) (.inl rfl) _).put (p := ⟨g2, 4, none⟩) (.inl rfl) _).put (p := ⟨g2, 5, none⟩) (.inl rfl) _).put (p := ⟨g2, 6, none⟩) (.inl rfl) _).put (p := ⟨g2, 7, none⟩) (.inl rfl) _)
  have hV : Has V g2 60 #[.int .i64 0, .int .i64 a, .int .i64 b, .int .i64 x, .int .i64 y, .int .i64 vx, .int .i64 vy, .int .i64 ln] := by rw [eV]; exact (((((((HR.out.put 0 _).put 1 _).put 2 _).put 3 _).put 4 _).put 5 _).put 6 _).put 7 _
  have KV : Made w.heap.size w V := But.made_ KW.out kV KW.out.1.size (fun b hb => by have hb : b = g2 := hb; omega)
  try rw [← eV]
  clear eV b_0 b_1 b_2 b_3 b_4 b_5 b_6 b_7 b_8 b_9 b_10 b_11 b_12 b_13 b_14 l1 r_0 r_1 r_2 r_3 r_4 r_5 r_6 r_7 l2 f2
  have q0 := hV.at_ 0
  have q1 := hV.at_ 1
  have q2 := hV.at_ 2
  have q3 := hV.at_ 3
  have q4 := hV.at_ 4
  have q5 := hV.at_ 5
  have q6 := hV.at_ 6
  have q7 := hV.at_ 7
  simp at q0 q1 q2 q3 q4 q5 q6 q7
  exact bodyPost_ret (v := .agg #[.int .i64 0, .int .i64 a, .int .i64 b, .int .i64 x, .int .i64 y, .int .i64 vx, .int .i64 vy, .int .i64 ln]) (by simp [results, Tryz.results77, go_sem, q0, q1, q2, q3, q4, q5, q6, q7]) rfl ⟨rfl, KV⟩
end Go.Proofs.YtfncelifflebbaaGreat.Fx

