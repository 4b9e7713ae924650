/- WoY WoZ WlE WlN WlO WlP WlR -/
import Derived.Test.YtfncelifflebbaaGreatQ7
import Derived.Test.YtfncelifflebbaaGreatQ8
import Derived.Test.YtfncelifflebbaaGreatQ11
import Derived.Deep.MidRow
import Derived.Deep.LoopGhost
import Derived.LoopN
import Derived.WalkMore

/- AddJoint, RemoveJoint, RemoveBody. -/

namespace Go.Proofs.YtfncelifflebbaaGreat.Fx
open Go.ChangeShapes Go.WideShapes Go.ChangeAt Go.RowKit
set_option linter.unusedVariables false

def goneB (id : Int) (b : Bd) : Bool := b.id == id
def goneJ (id : Int) (j : Jt) : Bool := j.a == id || j.b == id
def goneC (id : Int) (c : Ct) : Bool := c.a == id || c.b == id
def isJ (id : Int) (j : Jt) : Bool := j.id == id
def AddedJ (X : Nat → Prop) (w : World) (gw : Nat) (tk nb nj gx gy : Int) (B : List Bd) (J : List Jt) (C : List Ct) (j : Jt) (e : Ending) (v : World) : Prop :=
  (¬ JointP j ∧ e = .returned (.tuple #[.int .i64 0, .int .i64 2]) ∧ Made w.heap.size w v) ∨
  (JointP j ∧ ¬ (j.a ∈ B.map (·.id) ∧ j.b ∈ B.map (·.id)) ∧ e = .returned (.tuple #[.int .i64 0, .int .i64 4]) ∧ Made w.heap.size w v) ∨
  (JointP j ∧ (j.a ∈ B.map (·.id) ∧ j.b ∈ B.map (·.id)) ∧ (1024 ≤ J.length ∨ 4611686018427387904 ≤ nj) ∧ e = .returned (.tuple #[.int .i64 0, .int .i64 3]) ∧ Made w.heap.size w v) ∨
  (JointP j ∧ (j.a ∈ B.map (·.id) ∧ j.b ∈ B.map (·.id)) ∧ J.length < 1024 ∧ nj < 4611686018427387904 ∧ e = .returned (.tuple #[.int .i64 nj, .int .i64 0]) ∧ But (fun g => g = gw) w v ∧
    WVar X v gw tk nb (nj + 1) gx gy B (J ++ [⟨nj, j.a, j.b, j.ax, j.ay, j.tx, j.ty, j.ln⟩]) C)
def AddedJO (oc : Option Addr) (cc : Nat) (X : Nat → Prop) (w : World) (gw : Nat) (tk nb nj gx gy : Int) (B : List Bd) (J : List Jt) (C : List Ct) (j : Jt) (e : Ending) (v : World) : Prop :=
  (¬ JointP j ∧ e = .returned (.tuple #[.int .i64 0, .int .i64 2]) ∧ Made w.heap.size w v) ∨
  (JointP j ∧ ¬ (j.a ∈ B.map (·.id) ∧ j.b ∈ B.map (·.id)) ∧ e = .returned (.tuple #[.int .i64 0, .int .i64 4]) ∧ Made w.heap.size w v) ∨
  (JointP j ∧ (j.a ∈ B.map (·.id) ∧ j.b ∈ B.map (·.id)) ∧ (1024 ≤ J.length ∨ 4611686018427387904 ≤ nj) ∧ e = .returned (.tuple #[.int .i64 0, .int .i64 3]) ∧ Made w.heap.size w v) ∨
  (JointP j ∧ (j.a ∈ B.map (·.id) ∧ j.b ∈ B.map (·.id)) ∧ J.length < 1024 ∧ nj < 4611686018427387904 ∧ e = .returned (.tuple #[.int .i64 nj, .int .i64 0]) ∧ But (fun g => g = gw) w v ∧
    WVarO oc cc X v gw tk nb (nj + 1) gx gy B (J ++ [⟨nj, j.a, j.b, j.ax, j.ay, j.tx, j.ty, j.ln⟩]) C)
def RemovedJ (X : Nat → Prop) (w : World) (gw : Nat) (tk nb nj gx gy : Int) (B : List Bd) (J : List Jt) (C : List Ct) (id : Int) (e : Ending) (v : World) : Prop :=
  (¬ (∃ x ∈ J, x.id = id) ∧ e = .returned (.bool false) ∧ Made w.heap.size w v) ∨
  ((∃ x ∈ J, x.id = id) ∧ e = .returned (.bool true) ∧ But (fun g => g = gw) w v ∧ WVar X v gw tk nb nj gx gy B (J.filter fun x => !isJ id x) C)
def RemovedJO (oc : Option Addr) (cc : Nat) (X : Nat → Prop) (w : World) (gw : Nat) (tk nb nj gx gy : Int) (B : List Bd) (J : List Jt) (C : List Ct) (id : Int) (e : Ending) (v : World) : Prop :=
  (¬ (∃ x ∈ J, x.id = id) ∧ e = .returned (.bool false) ∧ Made w.heap.size w v) ∨
  ((∃ x ∈ J, x.id = id) ∧ e = .returned (.bool true) ∧ But (fun g => g = gw) w v ∧ WVarO oc cc X v gw tk nb nj gx gy B (J.filter fun x => !isJ id x) C)
end Go.Proofs.YtfncelifflebbaaGreat.Fx


/- RemoveBody. -/

namespace Go.Proofs.YtfncelifflebbaaGreat.Fx
open Go.ChangeShapes Go.WideShapes Go.ChangeAt Go.RowKit
set_option linter.unusedVariables false

def RemovedB (X : Nat → Prop) (w : World) (gw : Nat) (tk nb nj gx gy : Int) (B : List Bd) (J : List Jt) (C : List Ct) (id : Int) (e : Ending) (v : World) : Prop :=
  (id ∉ B.map (·.id) ∧ e = .returned (.bool false) ∧ Made w.heap.size w v) ∨
  (id ∈ B.map (·.id) ∧ e = .returned (.bool true) ∧ But (fun g => g = gw) w v ∧ WVar X v gw tk nb nj gx gy (B.filter fun x => !goneB id x) (J.filter fun x => !goneJ id x) (C.filter fun x => !goneC id x))
def RemovedBO (oc : Option Addr) (cc : Nat) (X : Nat → Prop) (w : World) (gw : Nat) (tk nb nj gx gy : Int) (B : List Bd) (J : List Jt) (C : List Ct) (id : Int) (e : Ending) (v : World) : Prop :=
  (id ∉ B.map (·.id) ∧ e = .returned (.bool false) ∧ Made w.heap.size w v) ∨
  (id ∈ B.map (·.id) ∧ e = .returned (.bool true) ∧ But (fun g => g = gw) w v ∧ ∃ oc' cc', (oc = none → oc' = none ∧ cc' = 0) ∧ WVarO oc' cc' X v gw tk nb nj gx gy (B.filter fun x => !goneB id x) (J.filter fun x => !goneJ id x) (C.filter fun x => !goneC id x))
end Go.Proofs.YtfncelifflebbaaGreat.Fx


/- What a deed does. -/


namespace Go.Proofs.YtfncelifflebbaaGreat.Fx
open Go.ChangeShapes Go.WideShapes Go.ChangeAt Go.RowKit
set_option linter.unusedVariables false

theorem run_loadVar_at {P : Program} (w : World) (a : Addr) (ty : TypeId) (cs : List Value) (d : TypeDesc) (hc : ∀ j v, cs[j]? = some v → w.cell? (a.add j) = some v)
    (hu : P.underlying ty = some d) (hd : (match d with | .struct _ | .array _ _ => true | _ => false) = true) (hi : (P.info? ty).map (·.size) = some cs.length) :
    (loadVar ty a).run P w = .ok (.agg cs.toArray) w := by
  have hl : (loadCells a cs.length).run P w = .ok cs.toArray w := run_loadCells_list (P := P) w a cs hc
  cases hq : P.info? ty with
  | none => simp [hq] at hi
  | some i =>
    have hs : i.size = cs.length := by simpa [hq] using hi
    have hagg : (isAgg ty).run P w = .ok true w := by
      unfold isAgg
      rw [Sem.run_bind, run_underlying hu w]
      cases d <;> simp_all
    simp [loadVar, Sem.run_bind, hagg, sizeOf, typeInfo, hq, hs, hl]
/-- a world, plain -/
structure PW where
  nb : Int
  nj : Int
  B : List Bd
  J : List Jt
  C : List Ct
structure POk (P : PW) : Prop where
  hB : BodiesP P.B P.nb
  hJ : JointsP P.B P.J P.nj
  hC : ContactsP P.B P.C
abbrev ids (B : List Bd) : List Int := B.map (·.id)
def newB (nb : Int) (b : Bd) (ao : Option Addr) (c : Nat) : Bd := ⟨nb, b.x, b.y, b.vx, b.vy, b.an, b.sp, b.de, b.k, b.r, ao, b.n, c, b.f⟩
def newJ (nj : Int) (j : Jt) : Jt := ⟨nj, j.a, j.b, j.ax, j.ay, j.tx, j.ty, j.ln⟩
def remB (P : PW) (id : Int) : PW := ⟨P.nb, P.nj, P.B.filter fun x => !goneB id x, P.J.filter fun x => !goneJ id x, P.C.filter fun x => !goneC id x⟩
def remJ (P : PW) (id : Int) : PW := ⟨P.nb, P.nj, P.B, P.J.filter fun x => !isJ id x, P.C⟩
def AddJP (j : Jt) (P : PW) (n e : Int) (P' : PW) : Prop :=
  (¬ JointP j ∧ n = 0 ∧ e = 2 ∧ P' = P) ∨
  (JointP j ∧ ¬ (j.a ∈ ids P.B ∧ j.b ∈ ids P.B) ∧ n = 0 ∧ e = 4 ∧ P' = P) ∨
  (JointP j ∧ (j.a ∈ ids P.B ∧ j.b ∈ ids P.B) ∧ (1024 ≤ P.J.length ∨ 4611686018427387904 ≤ P.nj) ∧ n = 0 ∧ e = 3 ∧ P' = P) ∨
  (JointP j ∧ (j.a ∈ ids P.B ∧ j.b ∈ ids P.B) ∧ P.J.length < 1024 ∧ P.nj < 4611686018427387904 ∧ n = P.nj ∧ e = 0 ∧ P' = ⟨P.nb, P.nj + 1, P.B, P.J ++ [newJ P.nj j], P.C⟩)
def AddBP (b : Bd) (P : PW) (n e : Int) (P' : PW) : Prop :=
  (¬ BodyP b ∧ n = 0 ∧ e = 2 ∧ P' = P) ∨
  (BodyP b ∧ (1024 ≤ P.B.length ∨ 4611686018427387904 ≤ P.nb) ∧ n = 0 ∧ e = 3 ∧ P' = P) ∨
  (BodyP b ∧ P.B.length < 1024 ∧ P.nb < 4611686018427387904 ∧ n = P.nb ∧ e = 0 ∧ ∃ ao c, P' = ⟨P.nb + 1, P.nj, P.B ++ [newB P.nb b ao c], P.J, P.C⟩)
def RemBP (id : Int) (P : PW) (gone : Bool) (P' : PW) : Prop := (id ∉ ids P.B ∧ gone = false ∧ P' = P) ∨ (id ∈ ids P.B ∧ gone = true ∧ P' = remB P id)
def RemJP (id : Int) (P : PW) (gone : Bool) (P' : PW) : Prop := (¬ (∃ x ∈ P.J, x.id = id) ∧ gone = false ∧ P' = P) ∨ ((∃ x ∈ P.J, x.id = id) ∧ gone = true ∧ P' = remJ P id)
/-- what a deed answers, and leaves -/
def StepP (b : Bd) (j : Jt) (K id : Int) (P : PW) (n e : Int) (gone : Bool) (P' : PW) : Prop :=
  ((K = 4 ∨ K = 5) ∧ gone = false ∧ AddJP j P n e P') ∨
  (K = 6 ∧ n = 0 ∧ e = 0 ∧ RemBP id P gone P') ∨
  (K = 3 ∧ n = 0 ∧ e = 0 ∧ RemJP id P gone P') ∨
  (¬ (K = 3 ∨ K = 4 ∨ K = 5 ∨ K = 6) ∧ gone = false ∧ AddBP b P n e P')
/-- a world variable, by its plain world -/
abbrev WV (X : Nat → Prop) (w : World) (gw : Nat) (P : PW) : Prop := WVar X w gw 0 P.nb P.nj 0 0 P.B P.J P.C
/-- a deed's body, whatever the world -/
def BodyOf (d : De) (bd : Bd) : Prop := BdI bd ∧ ∀ w, Sl w d.rao d.rn d.rf → Calls Tryz.prog 17 #[deV d] w fun e v => ∃ ao c, e = .returned (bodyV bd.id bd.x bd.y bd.vx bd.vy bd.an bd.sp bd.de bd.k bd.r (.slice ao bd.n c)) ∧ Sl v ao bd.n bd.f ∧ ((ao = none ∧ bd.n = 0 ∧ c = 0) ∨ ∃ a, ao = some a) ∧ Made w.heap.size w v
/-- .. and its corners are new, but Raw's -/
def BodyOfN (d : De) (bd : Bd) : Prop := BdI bd ∧ ∀ w, Sl w d.rao d.rn d.rf → Calls Tryz.prog 17 #[deV d] w fun e v => ∃ ao c, e = .returned (bodyV bd.id bd.x bd.y bd.vx bd.vy bd.an bd.sp bd.de bd.k bd.r (.slice ao bd.n c)) ∧ Sl v ao bd.n bd.f ∧ ((ao = none ∧ bd.n = 0 ∧ c = 0) ∨ ∃ a, ao = some a) ∧ Made w.heap.size w v ∧ (d.kd % 16 ≠ 15 → ∀ b off s, ao = some ⟨b, off, s⟩ → w.heap.size ≤ b)
abbrev WV0 (X : Nat → Prop) (w : World) (gw : Nat) (P : PW) : Prop := WVarO none 0 X w gw 0 P.nb P.nj 0 0 P.B P.J P.C
end Go.Proofs.YtfncelifflebbaaGreat.Fx


/- Made; the anchor. -/





namespace Go.Proofs.YtfncelifflebbaaGreat.Fx
open Go.ChangeShapes Go.WideShapes Go.ChangeAt Go.RowKit
set_option linter.unusedVariables false

theorem LsB.rangeAt {α : Type} {enc : α → List Value} {k : Nat} {w : World} {b off : Nat} {l : List α} (h : LsB enc k w b off l) {i : Nat} {x : α} (hx : l[i]? = some x) : w.rangeAt b (off + i * k) (enc x) := fun j v hv => h i x hx j v hv
theorem Made.setCells {B g : Nat} (hg : B ≤ g) : ∀ (vs : List Value) (o : Nat) {a w : World}, Made B a w → Made B a (w.setCells g o vs)
  | [], _, _, _, h => h
  | x :: vs, o, a, w, h => Made.setCells hg vs (o + 1) (h.put (p := ⟨g, o, none⟩) hg x)
/-- the deeds lie there -/
def DesAt (w : World) (ao : Option Addr) (l : List De) : Prop := LsT encD 30 w ao l ∧ ∀ d ∈ l, DeI d ∧ Sl w d.rao d.rn d.rf
theorem DesAt.kept {w v : World} {ao : Option Addr} {l : List De} (h : DesAt w ao l) (k : Made w.heap.size w v) : DesAt v ao l :=
  ⟨h.1.below k.1, fun d hd => ⟨(h.2 d hd).1, fun hn => by obtain ⟨b, off, e, hp⟩ := (h.2 d hd).2 hn; exact ⟨b, off, e, hp.kept k⟩⟩⟩
/-- few bodies and joints, low numbers, no contacts -/
def Small (P : PW) (m : Nat) : Prop := P.C = [] ∧ P.B.length ≤ m ∧ P.J.length ≤ m ∧ P.nb ≤ 1 + m ∧ P.nj ≤ 1 + m
/-- a world's value and its lists -/
def WVal (X : Nat → Prop) (v : World) (val : Value) (P : PW) : Prop := ∃ ob oj oc cb cj cc, val = wdV 0 P.nb P.nj 0 0 (.slice ob P.B.length cb) (.slice oj P.J.length cj) (.slice oc P.C.length cc) ∧ WLs X v ob cb P.B oj cj P.J oc cc P.C
/-- no block that is not there yet holds anything of a world -/
theorem WLs.free {X Y : Nat → Prop} {w : World} {ob oj oc : Option Addr} {cb cj cc : Nat} {B : List Bd} {J : List Jt} {C : List Ct} (h : WLs X w ob cb B oj cj J oc cc C) (hY : ∀ b, Y b → X b ∨ w.heap.size ≤ b) : WLs Y w ob cb B oj cj J oc cc C := by
  have key : ∀ {α : Type} {enc : α → List Value} {k : Nat} {ao : Option Addr} {l : List α}, LsT enc k w ao l → (0 < l.length → Offs X ao) → 0 < l.length → Offs Y ao := fun hl hx h0 b off s e hb => by
    obtain ⟨b', off', e', hlt, _⟩ := hl h0
    rcases hY b hb with h1 | h1
    · exact hx h0 b off s e h1
    · rw [e] at e'
      cases e'
      omega
  refine ⟨h.at_, h.okB, h.okJ, h.okC, key h.at_.lB h.offB, key h.at_.lJ h.offJ, key h.at_.lC h.offC, fun b hb hn b' off s e hx => ?_, h.okP⟩
  obtain ⟨b'', off'', e', hp⟩ := (h.at_.sB b hb).1 hn
  have hlt := hp.here hn
  rw [e] at e'
  cases e'
  rcases hY b' hx with h1 | h1
  · exact h.offP b hb hn _ _ _ e h1
  · omega
theorem WVal.kept {X : Nat → Prop} {w v : World} {val : Value} {P : PW} (h : WVal X w val P) (k : Made w.heap.size w v) : WVal X v val P := by
  obtain ⟨ob, oj, oc, cb, cj, cc, e, hL⟩ := h
  exact ⟨ob, oj, oc, cb, cj, cc, e, hL.kept k⟩
/-- .. with no contacts' slice -/
def WVal0 (X : Nat → Prop) (v : World) (val : Value) (P : PW) : Prop := ∃ ob oj cb cj, val = wdV 0 P.nb P.nj 0 0 (.slice ob P.B.length cb) (.slice oj P.J.length cj) (.slice none P.C.length 0) ∧ WLs X v ob cb P.B oj cj P.J none 0 P.C
theorem WVal0.up {X : Nat → Prop} {v : World} {val : Value} {P : PW} (h : WVal0 X v val P) : WVal X v val P := by
  obtain ⟨ob, oj, cb, cj, e, hL⟩ := h
  exact ⟨ob, oj, none, cb, cj, 0, e, hL⟩
theorem WV0.open {X : Nat → Prop} {w : World} {gw : Nat} {P : PW} (h : WV0 X w gw P) : ∃ ob oj oc cb cj cc, (oc = none ∧ cc = 0) ∧ Has w gw 49 #[.int .i64 0, .int .i64 P.nb, .int .i64 P.nj, .int .i64 0, .int .i64 0, .slice ob P.B.length cb, .slice oj P.J.length cj, .slice oc P.C.length cc] ∧ WLs X w ob cb P.B oj cj P.J oc cc P.C := by
  obtain ⟨ob, oj, cb, cj, hH, hL⟩ := h
  exact ⟨ob, oj, none, cb, cj, 0, ⟨rfl, rfl⟩, hH, hL⟩
theorem ls_new (X : Nat → Prop) (w : World) : WLs X w none 0 [] none 0 [] none 0 [] :=
  ⟨⟨fun h => absurd h (by simp), fun h => absurd h (by simp), fun h => absurd h (by simp), fun b hb => by simp at hb, fun b hb => by simp at hb, fun b hb => by simp at hb⟩, ⟨Nat.le_refl _, by unfold maxLen; omega, .inl ⟨rfl, rfl, rfl⟩⟩, ⟨Nat.le_refl _, by unfold maxLen; omega, .inl ⟨rfl, rfl, rfl⟩⟩, ⟨Nat.le_refl _, by unfold maxLen; omega, .inl ⟨rfl, rfl, rfl⟩⟩,
    fun h => absurd h (by simp), fun h => absurd h (by simp), fun h => absurd h (by simp), fun b hb => by simp at hb, fun b hb => by simp at hb⟩
theorem Small.mono {P : PW} {k m : Nat} (h : Small P k) (hm : k ≤ m) : Small P m := ⟨h.1, by have := h.2.1; omega, by have := h.2.2.1; omega, by have := h.2.2.2.1; omega, by have := h.2.2.2.2; omega⟩
end Go.Proofs.YtfncelifflebbaaGreat.Fx


/- The anchor; world variables in walks. -/

namespace Go.Proofs.YtfncelifflebbaaGreat.Fx
open Go.ChangeShapes Go.WideShapes Go.ChangeAt Go.RowKit
set_option linter.unusedVariables false

theorem i64_0 : I64 0 := by unfold I64; omega
end Go.Proofs.YtfncelifflebbaaGreat.Fx


/- WorldNumbers. -/

namespace Go.Proofs.YtfncelifflebbaaGreat.Fx
open Go.ChangeShapes Go.WideShapes Go.ChangeAt Go.RowKit
set_option linter.unusedVariables false

/-- a slice of small numbers that came in -/
def U8At (w : World) (ao : Option Addr) (n : Nat) (f : Nat → Int) : Prop := 0 < n → ∃ b off, ao = some ⟨b, off, none⟩ ∧ ∀ i, i < n → w.cell? ⟨b, off + i, none⟩ = some (.int .u8 (f i)) ∧ 0 ≤ f i ∧ f i < 256
theorem U8At.kept {w v : World} {ao : Option Addr} {n : Nat} {f : Nat → Int} (h : U8At w ao n f) (k : Made w.heap.size w v) : U8At v ao n f := fun hn => by
  obtain ⟨b, off, e, h⟩ := h hn
  exact ⟨b, off, e, fun i hi => ⟨k.reads (h i hi).1, (h i hi).2⟩⟩
end Go.Proofs.YtfncelifflebbaaGreat.Fx


/- WorldRights. -/


namespace Go.Proofs.YtfncelifflebbaaGreat.Fx
open Go.ChangeShapes Go.WideShapes Go.ChangeAt Go.RowKit
set_option linter.unusedVariables false

theorem SameB.i {b b' : Bd} (h : SameB b b') (k : BdI b) : BdI b' := by
  obtain ⟨h0, h1, h2, h3, h4, h5, h6, h7, h8, h9, h10, h11⟩ := h
  exact ⟨h0 ▸ k.id, h1 ▸ k.x, h2 ▸ k.y, h3 ▸ k.vx, h4 ▸ k.vy, h5 ▸ k.an, h6 ▸ k.sp, h7 ▸ k.de, h8 ▸ k.k, h9 ▸ k.r, h10 ▸ h11 ▸ k.f⟩
end Go.Proofs.YtfncelifflebbaaGreat.Fx

