/- WlE Aat -/
import Derived.Test.YtjhcejmfiekjgaaGreatSt7
import Derived.Test.YtjhcejmfiekjgaaGreatSt13
import Derived.Test.YtjhcejmfiekjgaaGreatSt14
import Derived.Maps.AppendAt
import Derived.Deep.MidRow
set_option maxRecDepth 100000
set_option maxHeartbeats 64000000
/- What a deed does. -/
namespace Go.Proofs.YtjhcejmfiekjgaaGreat.Fx
open Go.ChangeShapes Go.WideShapes Go.ChangeAt Go.RowKit
set_option linter.unusedVariables false
structure PW where
 nb : Int
 nj : Int
 B : List Bd
 J : List Jt
 C : List Ct
structure POk (P : PW) : Prop where
 hB : BodiesP P.B P.nb
 hJ : JointsP P.B P.J P.nj
 hC : ContactsP P.B P.C
abbrev ids (B : List Bd) : List Int := B.map (·.id)
def newB (nb : Int) (b : Bd) (ao : Option Addr) (c : Nat) : Bd := ⟨nb, b.x, b.y, b.vx, b.vy, b.an, b.sp, b.de, b.k, b.r, ao, b.n, c, b.f⟩
def newJ (nj : Int) (j : Jt) : Jt := ⟨nj, j.a, j.b, j.ax, j.ay, j.tx, j.ty, j.ln⟩
def remB (P : PW) (id : Int) : PW := ⟨P.nb, P.nj, P.B.filter fun x => !goneB id x, P.J.filter fun x => !goneJ id x, P.C.filter fun x => !goneC id x⟩
def remJ (P : PW) (id : Int) : PW := ⟨P.nb, P.nj, P.B, P.J.filter fun x => !isJ id x, P.C⟩
def AddJP (j : Jt) (P : PW) (n e : Int) (P' : PW) : Prop :=
 (¬ JointP j ∧ n = 0 ∧ e = 2 ∧ P' = P) ∨
 (JointP j ∧ ¬ (j.a ∈ ids P.B ∧ j.b ∈ ids P.B) ∧ n = 0 ∧ e = 4 ∧ P' = P) ∨
 (JointP j ∧ (j.a ∈ ids P.B ∧ j.b ∈ ids P.B) ∧ (1024 ≤ P.J.length ∨ 4611686018427387904 ≤ P.nj) ∧ n = 0 ∧ e = 3 ∧ P' = P) ∨
 (JointP j ∧ (j.a ∈ ids P.B ∧ j.b ∈ ids P.B) ∧ P.J.length < 1024 ∧ P.nj < 4611686018427387904 ∧ n = P.nj ∧ e = 0 ∧ P' = ⟨P.nb, P.nj + 1, P.B, P.J ++ [newJ P.nj j], P.C⟩)
def AddBP (b : Bd) (P : PW) (n e : Int) (P' : PW) : Prop :=
 (¬ BodyP b ∧ n = 0 ∧ e = 2 ∧ P' = P) ∨
 (BodyP b ∧ (1024 ≤ P.B.length ∨ 4611686018427387904 ≤ P.nb) ∧ n = 0 ∧ e = 3 ∧ P' = P) ∨
 (BodyP b ∧ P.B.length < 1024 ∧ P.nb < 4611686018427387904 ∧ n = P.nb ∧ e = 0 ∧ ∃ ao c, P' = ⟨P.nb + 1, P.nj, P.B ++ [newB P.nb b ao c], P.J, P.C⟩)
def RemBP (id : Int) (P : PW) (gone : Bool) (P' : PW) : Prop := (id ∉ ids P.B ∧ gone = false ∧ P' = P) ∨ (id ∈ ids P.B ∧ gone = true ∧ P' = remB P id)
def RemJP (id : Int) (P : PW) (gone : Bool) (P' : PW) : Prop := (¬ (∃ x ∈ P.J, x.id = id) ∧ gone = false ∧ P' = P) ∨ ((∃ x ∈ P.J, x.id = id) ∧ gone = true ∧ P' = remJ P id)
def StepP (b : Bd) (j : Jt) (K id : Int) (P : PW) (n e : Int) (gone : Bool) (P' : PW) : Prop :=
 ((K = 4 ∨ K = 5) ∧ gone = false ∧ AddJP j P n e P') ∨
 (K = 6 ∧ n = 0 ∧ e = 0 ∧ RemBP id P gone P') ∨
 (K = 3 ∧ n = 0 ∧ e = 0 ∧ RemJP id P gone P') ∨
 (¬ (K = 3 ∨ K = 4 ∨ K = 5 ∨ K = 6) ∧ gone = false ∧ AddBP b P n e P')
theorem numP_snoc {l : List Int} {n : Int} (h : NumP l n) (hn : n < 4611686018427387904) : NumP (l ++ [n]) (n + 1) := by
 obtain ⟨h1, h2, h3, h4⟩ := h
 refine ⟨by omega, by omega, List.pairwise_append.2 ⟨h3, List.pairwise_singleton _ _, fun a ha b hb => ?_⟩, fun i hi => ?_⟩
 ·rw [List.mem_singleton.1 hb]; exact (h4 a ha).2
 ·rcases List.mem_append.1 hi with hi | hi
  ·have := h4 i hi; omega
  ·rw [List.mem_singleton.1 hi]; omega
theorem numP_sub {l l' : List Int} {n : Int} (h : NumP l n) (hs : l'.Sublist l) : NumP l' n :=
 ⟨h.1, h.2.1, h.2.2.1.sublist hs, fun i hi => h.2.2.2 i (hs.subset hi)⟩
theorem newB_ok {nb : Int} {b : Bd} {ao : Option Addr} {c : Nat} (h : BodyP b) : BodyP (newB nb b ao c) := ⟨h.shape, h.x, h.y, h.vx, h.vy, h.sp, h.an, h.de, h.still⟩
theorem newJ_ok {nj : Int} {j : Jt} (h : JointP j) : JointP (newJ nj j) := ⟨h.ax, h.ay, h.tx, h.ty, h.ln, h.a, h.b, h.ab⟩
theorem ok_new : POk ⟨1, 1, [], [], []⟩ :=
 ⟨⟨by simp, fun b hb => by simp at hb, ⟨by decide, by decide, List.Pairwise.nil, fun i hi => by simp at hi⟩⟩, ⟨by simp, fun b hb => by simp at hb, ⟨by decide, by decide, List.Pairwise.nil, fun i hi => by simp at hi⟩⟩, ⟨fun c hc => by simp at hc, List.Pairwise.nil⟩⟩
theorem ids_snoc (B : List Bd) (b : Bd) : ids (B ++ [b]) = ids B ++ [b.id] := by simp [ids]
theorem addB_ok {b : Bd} {P P' : PW} {n e : Int} (h : POk P) (k : AddBP b P n e P') : POk P' := by
 rcases k with ⟨_, _, _, rfl⟩ | ⟨_, _, _, _, rfl⟩ | ⟨hb, hl, hn, _, _, ao, c, rfl⟩
 ·exact h
 ·exact h
 ·have sub : ∀ x, x ∈ ids P.B → x ∈ ids (P.B ++ [newB P.nb b ao c]) := fun x hx => by rw [ids_snoc]; exact List.mem_append_left _ hx
  refine ⟨⟨by simp; omega, fun x hx => ?_, ?_⟩, ⟨h.hJ.len, fun j hj => ?_, h.hJ.num⟩, ⟨fun c hc => ?_, h.hC.up⟩⟩
  ·rcases List.mem_append.1 hx with hx | hx
   ·exact h.hB.all x hx
   ·rw [List.mem_singleton.1 hx]; exact newB_ok hb
  ·show NumP (ids (P.B ++ [newB P.nb b ao c])) (P.nb + 1)
   rw [ids_snoc]
   exact numP_snoc h.hB.num hn
  ·have := h.hJ.all j hj
   exact ⟨this.1, sub _ this.2.1, sub _ this.2.2⟩
  ·have := h.hC.all c hc
   exact ⟨this.1, this.2.1, this.2.2.1, sub _ this.2.2.2.1, sub _ this.2.2.2.2⟩
theorem addJ_ok {j : Jt} {P P' : PW} {n e : Int} (h : POk P) (k : AddJP j P n e P') : POk P' := by
 rcases k with ⟨_, _, _, rfl⟩ | ⟨_, _, _, _, rfl⟩ | ⟨_, _, _, _, _, rfl⟩ | ⟨hj, hx, hl, hn, _, _, rfl⟩
 ·exact h
 ·exact h
 ·exact h
 ·refine ⟨h.hB, ⟨by simp; omega, fun x hx' => ?_, ?_⟩, h.hC⟩
  ·rcases List.mem_append.1 hx' with hx' | hx'
   ·exact h.hJ.all x hx'
   ·rw [List.mem_singleton.1 hx']; exact ⟨newJ_ok hj, hx.1, hx.2⟩
  ·show NumP ((P.J ++ [newJ P.nj j]).map (·.id)) (P.nj + 1)
   rw [List.map_append]
   exact numP_snoc h.hJ.num hn
theorem ids_filter (B : List Bd) (id : Int) : ids (B.filter fun x => !goneB id x) = (ids B).filter fun i => !(i == id) := by
 unfold ids
 rw [List.filter_map]
 rfl
theorem remB_ok {id : Int} {P : PW} (h : POk P) : POk (remB P id) := by
 have keep : ∀ x, x ∈ ids P.B → x ≠ id → x ∈ ids (P.B.filter fun x => !goneB id x) := fun x hx hne => by
  rw [ids_filter, List.mem_filter]
  exact ⟨hx, by simpa using hne⟩
 refine ⟨⟨Nat.le_trans (List.length_filter_le _ _) h.hB.len, fun x hx => h.hB.all x (List.mem_filter.1 hx).1, numP_sub h.hB.num (List.filter_sublist.map _)⟩, ⟨Nat.le_trans (List.length_filter_le _ _) h.hJ.len, fun j hj => ?_, numP_sub h.hJ.num (List.filter_sublist.map _)⟩, ⟨fun c hc => ?_, h.hC.up.sublist List.filter_sublist⟩⟩
 ·obtain ⟨h1, h2⟩ := List.mem_filter.1 hj
  have h3 := h.hJ.all j h1
  simp [goneJ] at h2
  exact ⟨h3.1, keep _ h3.2.1 h2.1, keep _ h3.2.2 h2.2⟩
 ·obtain ⟨h1, h2⟩ := List.mem_filter.1 hc
  have h3 := h.hC.all c h1
  simp [goneC] at h2
  exact ⟨h3.1, h3.2.1, h3.2.2.1, keep _ h3.2.2.2.1 h2.1, keep _ h3.2.2.2.2 h2.2⟩
theorem remJ_ok {id : Int} {P : PW} (h : POk P) : POk (remJ P id) :=
 ⟨h.hB, ⟨Nat.le_trans (List.length_filter_le _ _) h.hJ.len, fun j hj => h.hJ.all j (List.mem_filter.1 hj).1, numP_sub h.hJ.num (List.filter_sublist.map _)⟩, h.hC⟩
theorem step_ok {b : Bd} {j : Jt} {K id n e : Int} {gone : Bool} {P P' : PW} (h : POk P) (k : StepP b j K id P n e gone P') : POk P' := by
 rcases k with ⟨_, _, k⟩ | ⟨_, _, _, k⟩ | ⟨_, _, _, k⟩ | ⟨_, _, k⟩
 ·exact addJ_ok h k
 ·rcases k with ⟨_, _, rfl⟩ | ⟨_, _, rfl⟩
  ·exact h
  ·exact remB_ok h
 ·rcases k with ⟨_, _, rfl⟩ | ⟨_, _, rfl⟩
  ·exact h
  ·exact remJ_ok h
 ·exact addB_ok h k
abbrev WV (X : Nat → Prop) (w : World) (gw : Nat) (P : PW) : Prop := WVar X w gw 0 P.nb P.nj 0 0 P.B P.J P.C
theorem nb_I {P : PW} (h : POk P) : I64 P.nb ∧ 1 ≤ P.nb ∧ I64 P.nj ∧ 1 ≤ P.nj := by
 have a := h.hB.num.1; have b := h.hB.num.2.1; have c := h.hJ.num.1; have d := h.hJ.num.2.1
 unfold I64; omega
theorem addB_w {X : Nat → Prop} {w : World} {gw : Nat} {P : PW} (b : Bd) (hV : WV X w gw P) (hP : POk P) (hXg : X gw) (hXw : ∀ b, X b → b < w.heap.size) (hs : Sl w b.ao b.n b.f) (hi : BdI b) (ho : (b.ao = none ∧ b.n = 0 ∧ b.c = 0) ∨ ∃ a, b.ao = some a) :
  Calls Tryz.prog 18 #[.pointer (some ⟨gw, 0, none⟩), bdV b] w fun e v => ∃ n er P', e = .returned (.tuple #[.int .i64 n, .int .i64 er]) ∧ AddBP b P n er P' ∧ WV X v gw P' ∧ But (fun g => g = gw) w v := by
 obtain ⟨h1, h2, h3, h4⟩ := nb_I hP
 refine (addBody_c b hV hXg hXw hs hi ho h1 h2).mono ?_
 rintro e v (⟨a, rfl, k⟩ | ⟨a, b', rfl, k⟩ | ⟨a, b', c', rfl, k, ao, c, hv⟩)
 ·exact ⟨0, 2, P, rfl, .inl ⟨a, rfl, rfl, rfl⟩, WVar.kept hV k, Made.but k⟩
 ·exact ⟨0, 3, P, rfl, .inr (.inl ⟨a, b', rfl, rfl, rfl⟩), WVar.kept hV k, Made.but k⟩
 ·exact ⟨P.nb, 0, ⟨P.nb + 1, P.nj, P.B ++ [newB P.nb b ao c], P.J, P.C⟩, rfl, .inr (.inr ⟨a, b', c', rfl, rfl, ao, c, rfl⟩), hv, k⟩
theorem addJ_w {X : Nat → Prop} {w : World} {gw : Nat} {P : PW} (j : Jt) (hV : WV X w gw P) (hP : POk P) (hXg : X gw) (hXw : ∀ b, X b → b < w.heap.size) (hi : JtI j) :
  Calls Tryz.prog 52 #[.pointer (some ⟨gw, 0, none⟩), jtV j] w fun e v => ∃ n er P', e = .returned (.tuple #[.int .i64 n, .int .i64 er]) ∧ AddJP j P n er P' ∧ WV X v gw P' ∧ But (fun g => g = gw) w v := by
 obtain ⟨h1, h2, h3, h4⟩ := nb_I hP
 refine (addJoint_c j hV hXg hXw hi h3 h4 (by have := hP.hB.len; omega) hP.hB.num.2.2.1).mono ?_
 rintro e v (⟨a, rfl, k⟩ | ⟨a, b', rfl, k⟩ | ⟨a, b', c', rfl, k⟩ | ⟨a, b', c', d, rfl, k, hv⟩)
 ·exact ⟨0, 2, P, rfl, .inl ⟨a, rfl, rfl, rfl⟩, WVar.kept hV k, Made.but k⟩
 ·exact ⟨0, 4, P, rfl, .inr (.inl ⟨a, b', rfl, rfl, rfl⟩), WVar.kept hV k, Made.but k⟩
 ·exact ⟨0, 3, P, rfl, .inr (.inr (.inl ⟨a, b', c', rfl, rfl, rfl⟩)), WVar.kept hV k, Made.but k⟩
 ·exact ⟨P.nj, 0, ⟨P.nb, P.nj + 1, P.B, P.J ++ [newJ P.nj j], P.C⟩, rfl, .inr (.inr (.inr ⟨a, b', c', d, rfl, rfl, rfl⟩)), hv, k⟩
theorem remB_w {X : Nat → Prop} {w : World} {gw : Nat} {P : PW} (id : Int) (hV : WV X w gw P) (hP : POk P) (hXg : X gw) (hXw : ∀ b, X b → b < w.heap.size) (hmC : P.C.length ≤ 1073741824) :
  Calls Tryz.prog 54 #[.pointer (some ⟨gw, 0, none⟩), .int .i64 id] w fun e v => ∃ gone P', e = .returned (.bool gone) ∧ RemBP id P gone P' ∧ WV X v gw P' ∧ But (fun g => g = gw) w v := by
 refine (removeBody_c id hV hXg hXw (by have := hP.hB.len; omega) (by have := hP.hJ.len; omega) hmC hP.hB.num.2.2.1).mono ?_
 rintro e v (⟨a, rfl, k⟩ | ⟨a, rfl, k, hv⟩)
 ·exact ⟨false, P, rfl, .inl ⟨a, rfl, rfl⟩, WVar.kept hV k, Made.but k⟩
 ·exact ⟨true, remB P id, rfl, .inr ⟨a, rfl, rfl⟩, hv, k⟩
def BodyOf (d : De) (bd : Bd) : Prop := BdI bd ∧ ∀ w, Sl w d.rao d.rn d.rf → Calls Tryz.prog 56 #[deV d] w fun e v => ∃ ao c, e = .returned (bodyV bd.id bd.x bd.y bd.vx bd.vy bd.an bd.sp bd.de bd.k bd.r (.slice ao bd.n c)) ∧ Sl v ao bd.n bd.f ∧ ((ao = none ∧ bd.n = 0 ∧ c = 0) ∨ ∃ a, ao = some a) ∧ Made w.heap.size w v
def BodyOfN (d : De) (bd : Bd) : Prop := BdI bd ∧ ∀ w, Sl w d.rao d.rn d.rf → Calls Tryz.prog 56 #[deV d] w fun e v => ∃ ao c, e = .returned (bodyV bd.id bd.x bd.y bd.vx bd.vy bd.an bd.sp bd.de bd.k bd.r (.slice ao bd.n c)) ∧ Sl v ao bd.n bd.f ∧ ((ao = none ∧ bd.n = 0 ∧ c = 0) ∨ ∃ a, ao = some a) ∧ Made w.heap.size w v ∧ (d.kd % 16 ≠ 15 → ∀ b off s, ao = some ⟨b, off, s⟩ → w.heap.size ≤ b)
theorem dbodyN_c (d : De) (hi : DeI d) : ∃ bd, BodyOfN d bd := by
 by_cases hk : d.kd % 16 = 15
 ·refine ⟨d.raw, hi.raw, fun w hs => ?_⟩
  refine (dbody_raw d.kd d.pk d.pn d.ps d.pt d.px d.py d.pa d.vx d.vy d.sp d.de d.a d.b d.ax d.ay d.tx d.ty d.ln d.rid d.rx d.ry d.rvx d.rvy d.ran d.rsp d.rde d.rk d.rr d.rao d.rn d.rc w hk).mono ?_
  rintro e v ⟨rfl, k⟩
  exact ⟨d.rao, d.rc, rfl, fun hn => by obtain ⟨b, off, e, hp⟩ := hs hn; exact ⟨b, off, e, hp.kept k⟩, hi.rok, k, fun h => absurd hk h⟩
 ·obtain ⟨X, Y, A, k, r, n, f, _, hc, ir, ik, bX, bY, bA, hpl⟩ := place_w d.pk d.pn d.ps d.pt d.px d.py d.pa hi.px hi.py
  unfold Inn at bX bY
  have i0 : I64 0 := by unfold I64; omega
  have iM : I64 85899345920 := by unfold I64; omega
  have iN : I64 (-85899345920) := by unfold I64; omega
  by_cases hd : d.de % 4 = 0
  ·refine ⟨⟨0, X, Y, 0, 0, A, 0, 0, k, r, none, n, 0, f⟩, ⟨i0, by show I64 X; unfold I64; omega, by show I64 Y; unfold I64; omega, i0, i0, by show I64 A; unfold I64; omega, i0, i0, ik, ir, hc⟩, fun w hs => ?_⟩
   exact (dbody_still d.kd d.pk d.pn d.ps d.pt d.px d.py d.pa d.vx d.vy d.sp d.de d.a d.b d.ax d.ay d.tx d.ty d.ln d.rid d.rx d.ry d.rvx d.rvy d.ran d.rsp d.rde d.rk d.rr d.rao d.rn d.rc w hk hd X Y A k r n f hpl).mono fun _ _ ⟨a, c, h1, h2, h3, h4, h5⟩ => ⟨a, c, h1, h2, h3, h4, fun _ => h5⟩
  ·refine ⟨⟨0, X, Y, bringF d.vx (negF 85899345920) 85899345920, bringF d.vy (negF 85899345920) 85899345920, A, bringF d.sp (-85899345920) 85899345920, 1 + d.de % 34359738368, k, r, none, n, 0, f⟩,
    ⟨i0, by show I64 X; unfold I64; omega, by show I64 Y; unfold I64; omega, bring_I hi.vx (by exact iN) iM, bring_I hi.vy (by exact iN) iM, by show I64 A; unfold I64; omega, bring_I hi.sp iN iM, by show I64 (1 + d.de % 34359738368); unfold I64; omega, ik, ir, hc⟩, fun w hs => ?_⟩
   exact (dbody_full d.kd d.pk d.pn d.ps d.pt d.px d.py d.pa d.vx d.vy d.sp d.de d.a d.b d.ax d.ay d.tx d.ty d.ln d.rid d.rx d.ry d.rvx d.rvy d.ran d.rsp d.rde d.rk d.rr d.rao d.rn d.rc w hk hd X Y A k r _ _ _ _ n f hi.vx hi.vy hi.sp rfl rfl rfl rfl hpl).mono fun _ _ ⟨a, c, h1, h2, h3, h4, h5⟩ => ⟨a, c, h1, h2, h3, h4, fun _ => h5⟩
theorem dbody_c (d : De) (hi : DeI d) : ∃ bd, BodyOf d bd := by
 obtain ⟨bd, h1, h2⟩ := dbodyN_c d hi
 exact ⟨bd, h1, fun w hs => (h2 w hs).mono fun _ _ ⟨a, c, e1, e2, e3, e4, _⟩ => ⟨a, c, e1, e2, e3, e4⟩⟩
theorem do_j4 (kd pk pn ps pt px py pa vx vy sp de a b ax ay tx ty ln rid rx ry rvx rvy ran rsp rde rk rr : Int) (rao : Option Addr) (rn rc : Nat) (w : World) (gw : Nat) (aq K : Int) (eaq : a % 16 = aq) (eK : kd % 8 = K) (lgw : gw < w.heap.size) (hK : K = 4) (R : Int → Int → World → Prop) (jj : Jt) (HJ : ∀ v, Calls Tryz.prog 53 #[.agg #[.int .i64 kd, .int .i64 pk, .int .i64 pn, .int .i64 ps, .int .i64 pt, .int .i64 px, .int .i64 py, .int .i64 pa, .int .i64 vx, .int .i64 vy, .int .i64 sp, .int .i64 de, .int .i64 a, .int .i64 b, .int .i64 ax, .int .i64 ay, .int .i64 tx, .int .i64 ty, .int .i64 ln, .int .i64 rid, .int .i64 rx, .int .i64 ry, .int .i64 rvx, .int .i64 rvy, .int .i64 ran, .int .i64 rsp, .int .i64 rde, .int .i64 rk, .int .i64 rr, .slice rao rn rc]] v fun e u => e = .returned (jtV jj) ∧ Made v.heap.size v u) (HA : ∀ v, Made w.heap.size w v → Calls Tryz.prog 52 #[.pointer (some ⟨gw, 0, none⟩), jtV jj] v fun e u => ∃ n er, e = .returned (.tuple #[.int .i64 n, .int .i64 er]) ∧ R n er u) :
  Calls Tryz.prog 22 #[.agg #[.int .i64 kd, .int .i64 pk, .int .i64 pn, .int .i64 ps, .int .i64 pt, .int .i64 px, .int .i64 py, .int .i64 pa, .int .i64 vx, .int .i64 vy, .int .i64 sp, .int .i64 de, .int .i64 a, .int .i64 b, .int .i64 ax, .int .i64 ay, .int .i64 tx, .int .i64 ty, .int .i64 ln, .int .i64 rid, .int .i64 rx, .int .i64 ry, .int .i64 rvx, .int .i64 rvy, .int .i64 ran, .int .i64 rsp, .int .i64 rde, .int .i64 rk, .int .i64 rr, .slice rao rn rc], .pointer (some ⟨gw, 0, none⟩)] w fun e v => ∃ n er, e = .returned (.tuple #[.int .i64 n, .int .i64 er, .bool false]) ∧ R n er v := by
 subst hK
 have HJ := hid HJ
 have HA := hid HA
 have aA := (and15 a).trans eaq
 have aK := (and7 kd).trans eK
 clear eaq eK
 obtain ⟨W, eW⟩ : ∃ W, W = w.alloc (.cells #[.int .i64 kd, .int .i64 pk, .int .i64 pn, .int .i64 ps, .int .i64 pt, .int .i64 px, .int .i64 py, .int .i64 pa, .int .i64 vx, .int .i64 vy, .int .i64 sp, .int .i64 de, .int .i64 a, .int .i64 b, .int .i64 ax, .int .i64 ay, .int .i64 tx, .int .i64 ty, .int .i64 ln, .int .i64 rid, .int .i64 rx, .int .i64 ry, .int .i64 rvx, .int .i64 rvy, .int .i64 ran, .int .i64 rsp, .int .i64 rde, .int .i64 rk, .int .i64 rr, .slice rao rn rc] 74) := ⟨_, rfl⟩
 have KW : Hid (Made w.heap.size w W) := by unfold Hid; rw [eW]; exact (Made.rfl_ _ _).cells (Nat.le_refl _) _ _
 have HD : Hid (Has W w.heap.size 74 #[.int .i64 kd, .int .i64 pk, .int .i64 pn, .int .i64 ps, .int .i64 pt, .int .i64 px, .int .i64 py, .int .i64 pa, .int .i64 vx, .int .i64 vy, .int .i64 sp, .int .i64 de, .int .i64 a, .int .i64 b, .int .i64 ax, .int .i64 ay, .int .i64 tx, .int .i64 ty, .int .i64 ln, .int .i64 rid, .int .i64 rx, .int .i64 ry, .int .i64 rvx, .int .i64 rvy, .int .i64 ran, .int .i64 rsp, .int .i64 rde, .int .i64 rk, .int .i64 rr, .slice rao rn rc]) := by unfold Hid; rw [eW]; exact has_new _ _ _
 obtain ⟨g0, eg0⟩ : ∃ g, w.heap.size = g := ⟨_, rfl⟩
 rw [eg0] at HD
 have b0 := HD.out.at_ 0
 simp at b0
 have l0 : g0 < W.heap.size := HD.out.here
 go_enter Tryz.func22, Tryz.ntmps22
 go_upto_region 1 with fail
 rw [← eW]
 clear eW
 try rw [eg0]
 go_wp2_with (refine wpList_load_row rfl 74 (.tmp 2) rfl g0 rfl 74 _ (0, 0) _ HD.out Tryz.underlying74 rfl (by kernel_rfl) ?_)
 refine (HJ.out _).mono ?_
 rintro e w1 ⟨rfl, k1⟩
 have K1 := hid (KW.out.then_ (k1.low KW.out.1.size))
 clear k1 l0 b0 HD
 go_wp2_with fail
 refine (HA.out _ K1.out).mono ?_
 rintro e w2 ⟨n, er, rfl, hA⟩
 have HR := hid hA
 clear hA
 go_wp2_with fail
 exact bodyPost_ret (v := .tuple #[.int .i64 n, .int .i64 er, .bool false]) (by simp [results, Tryz.results22, go_sem]) rfl ⟨n, er, rfl, HR.out⟩
theorem do_j5 (kd pk pn ps pt px py pa vx vy sp de a b ax ay tx ty ln rid rx ry rvx rvy ran rsp rde rk rr : Int) (rao : Option Addr) (rn rc : Nat) (w : World) (gw : Nat) (aq K : Int) (eaq : a % 16 = aq) (eK : kd % 8 = K) (lgw : gw < w.heap.size) (hK : K = 5) (R : Int → Int → World → Prop) (jj : Jt) (HJ : ∀ v, Calls Tryz.prog 53 #[.agg #[.int .i64 kd, .int .i64 pk, .int .i64 pn, .int .i64 ps, .int .i64 pt, .int .i64 px, .int .i64 py, .int .i64 pa, .int .i64 vx, .int .i64 vy, .int .i64 sp, .int .i64 de, .int .i64 a, .int .i64 b, .int .i64 ax, .int .i64 ay, .int .i64 tx, .int .i64 ty, .int .i64 ln, .int .i64 rid, .int .i64 rx, .int .i64 ry, .int .i64 rvx, .int .i64 rvy, .int .i64 ran, .int .i64 rsp, .int .i64 rde, .int .i64 rk, .int .i64 rr, .slice rao rn rc]] v fun e u => e = .returned (jtV jj) ∧ Made v.heap.size v u) (HA : ∀ v, Made w.heap.size w v → Calls Tryz.prog 52 #[.pointer (some ⟨gw, 0, none⟩), jtV jj] v fun e u => ∃ n er, e = .returned (.tuple #[.int .i64 n, .int .i64 er]) ∧ R n er u) :
  Calls Tryz.prog 22 #[.agg #[.int .i64 kd, .int .i64 pk, .int .i64 pn, .int .i64 ps, .int .i64 pt, .int .i64 px, .int .i64 py, .int .i64 pa, .int .i64 vx, .int .i64 vy, .int .i64 sp, .int .i64 de, .int .i64 a, .int .i64 b, .int .i64 ax, .int .i64 ay, .int .i64 tx, .int .i64 ty, .int .i64 ln, .int .i64 rid, .int .i64 rx, .int .i64 ry, .int .i64 rvx, .int .i64 rvy, .int .i64 ran, .int .i64 rsp, .int .i64 rde, .int .i64 rk, .int .i64 rr, .slice rao rn rc], .pointer (some ⟨gw, 0, none⟩)] w fun e v => ∃ n er, e = .returned (.tuple #[.int .i64 n, .int .i64 er, .bool false]) ∧ R n er v := by
 subst hK
 have HJ := hid HJ
 have HA := hid HA
 have aA := (and15 a).trans eaq
 have aK := (and7 kd).trans eK
 clear eaq eK
 obtain ⟨W, eW⟩ : ∃ W, W = w.alloc (.cells #[.int .i64 kd, .int .i64 pk, .int .i64 pn, .int .i64 ps, .int .i64 pt, .int .i64 px, .int .i64 py, .int .i64 pa, .int .i64 vx, .int .i64 vy, .int .i64 sp, .int .i64 de, .int .i64 a, .int .i64 b, .int .i64 ax, .int .i64 ay, .int .i64 tx, .int .i64 ty, .int .i64 ln, .int .i64 rid, .int .i64 rx, .int .i64 ry, .int .i64 rvx, .int .i64 rvy, .int .i64 ran, .int .i64 rsp, .int .i64 rde, .int .i64 rk, .int .i64 rr, .slice rao rn rc] 74) := ⟨_, rfl⟩
 have KW : Hid (Made w.heap.size w W) := by unfold Hid; rw [eW]; exact (Made.rfl_ _ _).cells (Nat.le_refl _) _ _
 have HD : Hid (Has W w.heap.size 74 #[.int .i64 kd, .int .i64 pk, .int .i64 pn, .int .i64 ps, .int .i64 pt, .int .i64 px, .int .i64 py, .int .i64 pa, .int .i64 vx, .int .i64 vy, .int .i64 sp, .int .i64 de, .int .i64 a, .int .i64 b, .int .i64 ax, .int .i64 ay, .int .i64 tx, .int .i64 ty, .int .i64 ln, .int .i64 rid, .int .i64 rx, .int .i64 ry, .int .i64 rvx, .int .i64 rvy, .int .i64 ran, .int .i64 rsp, .int .i64 rde, .int .i64 rk, .int .i64 rr, .slice rao rn rc]) := by unfold Hid; rw [eW]; exact has_new _ _ _
 obtain ⟨g0, eg0⟩ : ∃ g, w.heap.size = g := ⟨_, rfl⟩
 rw [eg0] at HD
 have b0 := HD.out.at_ 0
 simp at b0
 have l0 : g0 < W.heap.size := HD.out.here
 go_enter Tryz.func22, Tryz.ntmps22
 go_upto_region 1 with fail
 rw [← eW]
 clear eW
 try rw [eg0]
 go_wp2_with (refine wpList_load_row rfl 74 (.tmp 2) rfl g0 rfl 74 _ (0, 0) _ HD.out Tryz.underlying74 rfl (by kernel_rfl) ?_)
 refine (HJ.out _).mono ?_
 rintro e w1 ⟨rfl, k1⟩
 have K1 := hid (KW.out.then_ (k1.low KW.out.1.size))
 clear k1 l0 b0 HD
 go_wp2_with fail
 refine (HA.out _ K1.out).mono ?_
 rintro e w2 ⟨n, er, rfl, hA⟩
 have HR := hid hA
 clear hA
 go_wp2_with fail
 exact bodyPost_ret (v := .tuple #[.int .i64 n, .int .i64 er, .bool false]) (by simp [results, Tryz.results22, go_sem]) rfl ⟨n, er, rfl, HR.out⟩
theorem do_r6 (kd pk pn ps pt px py pa vx vy sp de a b ax ay tx ty ln rid rx ry rvx rvy ran rsp rde rk rr : Int) (rao : Option Addr) (rn rc : Nat) (w : World) (gw : Nat) (aq K : Int) (eaq : a % 16 = aq) (eK : kd % 8 = K) (lgw : gw < w.heap.size) (hK : K = 6) (R : Bool → World → Prop) (HA : ∀ v, Made w.heap.size w v → Calls Tryz.prog 54 #[.pointer (some ⟨gw, 0, none⟩), .int .i64 aq] v fun e u => ∃ gone, e = .returned (.bool gone) ∧ R gone u) :
  Calls Tryz.prog 22 #[.agg #[.int .i64 kd, .int .i64 pk, .int .i64 pn, .int .i64 ps, .int .i64 pt, .int .i64 px, .int .i64 py, .int .i64 pa, .int .i64 vx, .int .i64 vy, .int .i64 sp, .int .i64 de, .int .i64 a, .int .i64 b, .int .i64 ax, .int .i64 ay, .int .i64 tx, .int .i64 ty, .int .i64 ln, .int .i64 rid, .int .i64 rx, .int .i64 ry, .int .i64 rvx, .int .i64 rvy, .int .i64 ran, .int .i64 rsp, .int .i64 rde, .int .i64 rk, .int .i64 rr, .slice rao rn rc], .pointer (some ⟨gw, 0, none⟩)] w fun e v => ∃ gone, e = .returned (.tuple #[.int .i64 0, .int .i64 0, .bool gone]) ∧ R gone v := by
 subst hK
 have HA := hid HA
 have aA := (and15 a).trans eaq
 have aK := (and7 kd).trans eK
 clear eaq eK
 obtain ⟨W, eW⟩ : ∃ W, W = w.alloc (.cells #[.int .i64 kd, .int .i64 pk, .int .i64 pn, .int .i64 ps, .int .i64 pt, .int .i64 px, .int .i64 py, .int .i64 pa, .int .i64 vx, .int .i64 vy, .int .i64 sp, .int .i64 de, .int .i64 a, .int .i64 b, .int .i64 ax, .int .i64 ay, .int .i64 tx, .int .i64 ty, .int .i64 ln, .int .i64 rid, .int .i64 rx, .int .i64 ry, .int .i64 rvx, .int .i64 rvy, .int .i64 ran, .int .i64 rsp, .int .i64 rde, .int .i64 rk, .int .i64 rr, .slice rao rn rc] 74) := ⟨_, rfl⟩
 have KW : Hid (Made w.heap.size w W) := by unfold Hid; rw [eW]; exact (Made.rfl_ _ _).cells (Nat.le_refl _) _ _
 have HD : Hid (Has W w.heap.size 74 #[.int .i64 kd, .int .i64 pk, .int .i64 pn, .int .i64 ps, .int .i64 pt, .int .i64 px, .int .i64 py, .int .i64 pa, .int .i64 vx, .int .i64 vy, .int .i64 sp, .int .i64 de, .int .i64 a, .int .i64 b, .int .i64 ax, .int .i64 ay, .int .i64 tx, .int .i64 ty, .int .i64 ln, .int .i64 rid, .int .i64 rx, .int .i64 ry, .int .i64 rvx, .int .i64 rvy, .int .i64 ran, .int .i64 rsp, .int .i64 rde, .int .i64 rk, .int .i64 rr, .slice rao rn rc]) := by unfold Hid; rw [eW]; exact has_new _ _ _
 obtain ⟨g0, eg0⟩ : ∃ g, w.heap.size = g := ⟨_, rfl⟩
 rw [eg0] at HD
 have b0 := HD.out.at_ 0
 have b12 := HD.out.at_ 12
 simp at b0 b12
 have l0 : g0 < W.heap.size := HD.out.here
 go_enter Tryz.func22, Tryz.ntmps22
 go_upto_region 1 with fail
 rw [← eW]
 clear eW
 try rw [eg0]
 go_wp2_with fail
 refine (HA.out _ KW.out).mono ?_
 rintro e w2 ⟨gone, rfl, hA⟩
 have HR := hid hA
 clear hA l0 b0 b12
 go_wp2_with fail
 exact bodyPost_ret (v := .tuple #[.int .i64 0, .int .i64 0, .bool gone]) (by simp [results, Tryz.results22, go_sem]) rfl ⟨gone, rfl, HR.out⟩
theorem do_r3 (kd pk pn ps pt px py pa vx vy sp de a b ax ay tx ty ln rid rx ry rvx rvy ran rsp rde rk rr : Int) (rao : Option Addr) (rn rc : Nat) (w : World) (gw : Nat) (aq K : Int) (eaq : a % 16 = aq) (eK : kd % 8 = K) (lgw : gw < w.heap.size) (hK : K = 3) (R : Bool → World → Prop) (HA : ∀ v, Made w.heap.size w v → Calls Tryz.prog 55 #[.pointer (some ⟨gw, 0, none⟩), .int .i64 aq] v fun e u => ∃ gone, e = .returned (.bool gone) ∧ R gone u) :
  Calls Tryz.prog 22 #[.agg #[.int .i64 kd, .int .i64 pk, .int .i64 pn, .int .i64 ps, .int .i64 pt, .int .i64 px, .int .i64 py, .int .i64 pa, .int .i64 vx, .int .i64 vy, .int .i64 sp, .int .i64 de, .int .i64 a, .int .i64 b, .int .i64 ax, .int .i64 ay, .int .i64 tx, .int .i64 ty, .int .i64 ln, .int .i64 rid, .int .i64 rx, .int .i64 ry, .int .i64 rvx, .int .i64 rvy, .int .i64 ran, .int .i64 rsp, .int .i64 rde, .int .i64 rk, .int .i64 rr, .slice rao rn rc], .pointer (some ⟨gw, 0, none⟩)] w fun e v => ∃ gone, e = .returned (.tuple #[.int .i64 0, .int .i64 0, .bool gone]) ∧ R gone v := by
 subst hK
 have HA := hid HA
 have aA := (and15 a).trans eaq
 have aK := (and7 kd).trans eK
 clear eaq eK
 obtain ⟨W, eW⟩ : ∃ W, W = w.alloc (.cells #[.int .i64 kd, .int .i64 pk, .int .i64 pn, .int .i64 ps, .int .i64 pt, .int .i64 px, .int .i64 py, .int .i64 pa, .int .i64 vx, .int .i64 vy, .int .i64 sp, .int .i64 de, .int .i64 a, .int .i64 b, .int .i64 ax, .int .i64 ay, .int .i64 tx, .int .i64 ty, .int .i64 ln, .int .i64 rid, .int .i64 rx, .int .i64 ry, .int .i64 rvx, .int .i64 rvy, .int .i64 ran, .int .i64 rsp, .int .i64 rde, .int .i64 rk, .int .i64 rr, .slice rao rn rc] 74) := ⟨_, rfl⟩
 have KW : Hid (Made w.heap.size w W) := by unfold Hid; rw [eW]; exact (Made.rfl_ _ _).cells (Nat.le_refl _) _ _
 have HD : Hid (Has W w.heap.size 74 #[.int .i64 kd, .int .i64 pk, .int .i64 pn, .int .i64 ps, .int .i64 pt, .int .i64 px, .int .i64 py, .int .i64 pa, .int .i64 vx, .int .i64 vy, .int .i64 sp, .int .i64 de, .int .i64 a, .int .i64 b, .int .i64 ax, .int .i64 ay, .int .i64 tx, .int .i64 ty, .int .i64 ln, .int .i64 rid, .int .i64 rx, .int .i64 ry, .int .i64 rvx, .int .i64 rvy, .int .i64 ran, .int .i64 rsp, .int .i64 rde, .int .i64 rk, .int .i64 rr, .slice rao rn rc]) := by unfold Hid; rw [eW]; exact has_new _ _ _
 obtain ⟨g0, eg0⟩ : ∃ g, w.heap.size = g := ⟨_, rfl⟩
 rw [eg0] at HD
 have b0 := HD.out.at_ 0
 have b12 := HD.out.at_ 12
 simp at b0 b12
 have l0 : g0 < W.heap.size := HD.out.here
 go_enter Tryz.func22, Tryz.ntmps22
 go_upto_region 1 with fail
 rw [← eW]
 clear eW
 try rw [eg0]
 go_wp2_with fail
 refine (HA.out _ KW.out).mono ?_
 rintro e w2 ⟨gone, rfl, hA⟩
 have HR := hid hA
 clear hA l0 b0 b12
 go_wp2_with fail
 exact bodyPost_ret (v := .tuple #[.int .i64 0, .int .i64 0, .bool gone]) (by simp [results, Tryz.results22, go_sem]) rfl ⟨gone, rfl, HR.out⟩
theorem do_b (kd pk pn ps pt px py pa vx vy sp de a b ax ay tx ty ln rid rx ry rvx rvy ran rsp rde rk rr : Int) (rao : Option Addr) (rn rc : Nat) (w : World) (gw : Nat) (aq K : Int) (eaq : a % 16 = aq) (eK : kd % 8 = K) (lgw : gw < w.heap.size) (hK : ¬ (K = 3 ∨ K = 4 ∨ K = 5 ∨ K = 6)) (R : Int → Int → World → Prop) (BP : Value → World → Prop) (HB : ∀ v, Made w.heap.size w v → Calls Tryz.prog 56 #[.agg #[.int .i64 kd, .int .i64 pk, .int .i64 pn, .int .i64 ps, .int .i64 pt, .int .i64 px, .int .i64 py, .int .i64 pa, .int .i64 vx, .int .i64 vy, .int .i64 sp, .int .i64 de, .int .i64 a, .int .i64 b, .int .i64 ax, .int .i64 ay, .int .i64 tx, .int .i64 ty, .int .i64 ln, .int .i64 rid, .int .i64 rx, .int .i64 ry, .int .i64 rvx, .int .i64 rvy, .int .i64 ran, .int .i64 rsp, .int .i64 rde, .int .i64 rk, .int .i64 rr, .slice rao rn rc]] v fun e u => ∃ bv, e = .returned bv ∧ BP bv u ∧ Made v.heap.size v u) (HA : ∀ v bv, Made w.heap.size w v → BP bv v → Calls Tryz.prog 18 #[.pointer (some ⟨gw, 0, none⟩), bv] v fun e u => ∃ n er, e = .returned (.tuple #[.int .i64 n, .int .i64 er]) ∧ R n er u) :
  Calls Tryz.prog 22 #[.agg #[.int .i64 kd, .int .i64 pk, .int .i64 pn, .int .i64 ps, .int .i64 pt, .int .i64 px, .int .i64 py, .int .i64 pa, .int .i64 vx, .int .i64 vy, .int .i64 sp, .int .i64 de, .int .i64 a, .int .i64 b, .int .i64 ax, .int .i64 ay, .int .i64 tx, .int .i64 ty, .int .i64 ln, .int .i64 rid, .int .i64 rx, .int .i64 ry, .int .i64 rvx, .int .i64 rvy, .int .i64 ran, .int .i64 rsp, .int .i64 rde, .int .i64 rk, .int .i64 rr, .slice rao rn rc], .pointer (some ⟨gw, 0, none⟩)] w fun e v => ∃ n er, e = .returned (.tuple #[.int .i64 n, .int .i64 er, .bool false]) ∧ R n er v := by
 have e3 : (K == 3) = false := by simpa using fun h => hK (.inl h)
 have e4 : (K == 4) = false := by simpa using fun h => hK (.inr (.inl h))
 have e5 : (K == 5) = false := by simpa using fun h => hK (.inr (.inr (.inl h)))
 have e6 : (K == 6) = false := by simpa using fun h => hK (.inr (.inr (.inr h)))
 clear hK
 have HB := hid HB
 have HA := hid HA
 have aA := (and15 a).trans eaq
 have aK := (and7 kd).trans eK
 clear eaq eK
 obtain ⟨W, eW⟩ : ∃ W, W = w.alloc (.cells #[.int .i64 kd, .int .i64 pk, .int .i64 pn, .int .i64 ps, .int .i64 pt, .int .i64 px, .int .i64 py, .int .i64 pa, .int .i64 vx, .int .i64 vy, .int .i64 sp, .int .i64 de, .int .i64 a, .int .i64 b, .int .i64 ax, .int .i64 ay, .int .i64 tx, .int .i64 ty, .int .i64 ln, .int .i64 rid, .int .i64 rx, .int .i64 ry, .int .i64 rvx, .int .i64 rvy, .int .i64 ran, .int .i64 rsp, .int .i64 rde, .int .i64 rk, .int .i64 rr, .slice rao rn rc] 74) := ⟨_, rfl⟩
 have KW : Hid (Made w.heap.size w W) := by unfold Hid; rw [eW]; exact (Made.rfl_ _ _).cells (Nat.le_refl _) _ _
 have HD : Hid (Has W w.heap.size 74 #[.int .i64 kd, .int .i64 pk, .int .i64 pn, .int .i64 ps, .int .i64 pt, .int .i64 px, .int .i64 py, .int .i64 pa, .int .i64 vx, .int .i64 vy, .int .i64 sp, .int .i64 de, .int .i64 a, .int .i64 b, .int .i64 ax, .int .i64 ay, .int .i64 tx, .int .i64 ty, .int .i64 ln, .int .i64 rid, .int .i64 rx, .int .i64 ry, .int .i64 rvx, .int .i64 rvy, .int .i64 ran, .int .i64 rsp, .int .i64 rde, .int .i64 rk, .int .i64 rr, .slice rao rn rc]) := by unfold Hid; rw [eW]; exact has_new _ _ _
 obtain ⟨g0, eg0⟩ : ∃ g, w.heap.size = g := ⟨_, rfl⟩
 rw [eg0] at HD
 have b0 := HD.out.at_ 0
 simp at b0
 have l0 : g0 < W.heap.size := HD.out.here
 go_enter Tryz.func22, Tryz.ntmps22
 go_upto_region 1 with fail
 rw [← eW]
 clear eW
 try rw [eg0]
 go_wp2_with (refine wpList_load_row rfl 74 (.tmp 2) rfl g0 rfl 74 _ (0, 0) _ HD.out Tryz.underlying74 rfl (by kernel_rfl) ?_)
 refine (HB.out _ KW.out).mono ?_
 rintro e w1 ⟨bv, rfl, hb, k1⟩
 have K1 := hid (KW.out.then_ (k1.low KW.out.1.size))
 have HA1 := hid (HA.out _ bv K1.out hb)
 clear k1 hb l0 b0 HD
 go_wp2_with fail
 refine HA1.out.mono ?_
 rintro e w2 ⟨n, er, rfl, hA⟩
 have HR := hid hA
 clear hA
 go_wp2_with fail
 exact bodyPost_ret (v := .tuple #[.int .i64 n, .int .i64 er, .bool false]) (by simp [results, Tryz.results22, go_sem]) rfl ⟨n, er, rfl, HR.out⟩
abbrev WV0 (X : Nat → Prop) (w : World) (gw : Nat) (P : PW) : Prop := WVarO none 0 X w gw 0 P.nb P.nj 0 0 P.B P.J P.C
theorem addB_0 {X : Nat → Prop} {w : World} {gw : Nat} {P : PW} (b : Bd) (hV : WV0 X w gw P) (hP : POk P) (hXg : X gw) (hXw : ∀ b, X b → b < w.heap.size) (hs : Sl w b.ao b.n b.f) (hi : BdI b) (ho : (b.ao = none ∧ b.n = 0 ∧ b.c = 0) ∨ ∃ a, b.ao = some a) :
  Calls Tryz.prog 18 #[.pointer (some ⟨gw, 0, none⟩), bdV b] w fun e v => ∃ n er P', e = .returned (.tuple #[.int .i64 n, .int .i64 er]) ∧ AddBP b P n er P' ∧ WV0 X v gw P' ∧ But (fun g => g = gw) w v := by
 obtain ⟨h1, h2, h3, h4⟩ := nb_I hP
 refine (addBody_o b hV hXg hXw hs hi ho h1 h2).mono ?_
 rintro e v (⟨a, rfl, k⟩ | ⟨a, b', rfl, k⟩ | ⟨a, b', c', rfl, k, ao, c, hv⟩)
 ·exact ⟨0, 2, P, rfl, .inl ⟨a, rfl, rfl, rfl⟩, WVarO.kept hV k, Made.but k⟩
 ·exact ⟨0, 3, P, rfl, .inr (.inl ⟨a, b', rfl, rfl, rfl⟩), WVarO.kept hV k, Made.but k⟩
 ·exact ⟨P.nb, 0, ⟨P.nb + 1, P.nj, P.B ++ [newB P.nb b ao c], P.J, P.C⟩, rfl, .inr (.inr ⟨a, b', c', rfl, rfl, ao, c, rfl⟩), hv, k⟩
theorem addJ_0 {X : Nat → Prop} {w : World} {gw : Nat} {P : PW} (j : Jt) (hV : WV0 X w gw P) (hP : POk P) (hXg : X gw) (hXw : ∀ b, X b → b < w.heap.size) (hi : JtI j) :
  Calls Tryz.prog 52 #[.pointer (some ⟨gw, 0, none⟩), jtV j] w fun e v => ∃ n er P', e = .returned (.tuple #[.int .i64 n, .int .i64 er]) ∧ AddJP j P n er P' ∧ WV0 X v gw P' ∧ But (fun g => g = gw) w v := by
 obtain ⟨h1, h2, h3, h4⟩ := nb_I hP
 refine (addJoint_o j hV hXg hXw hi h3 h4 (by have := hP.hB.len; omega) hP.hB.num.2.2.1).mono ?_
 rintro e v (⟨a, rfl, k⟩ | ⟨a, b', rfl, k⟩ | ⟨a, b', c', rfl, k⟩ | ⟨a, b', c', d, rfl, k, hv⟩)
 ·exact ⟨0, 2, P, rfl, .inl ⟨a, rfl, rfl, rfl⟩, WVarO.kept hV k, Made.but k⟩
 ·exact ⟨0, 4, P, rfl, .inr (.inl ⟨a, b', rfl, rfl, rfl⟩), WVarO.kept hV k, Made.but k⟩
 ·exact ⟨0, 3, P, rfl, .inr (.inr (.inl ⟨a, b', c', rfl, rfl, rfl⟩)), WVarO.kept hV k, Made.but k⟩
 ·exact ⟨P.nj, 0, ⟨P.nb, P.nj + 1, P.B, P.J ++ [newJ P.nj j], P.C⟩, rfl, .inr (.inr (.inr ⟨a, b', c', d, rfl, rfl, rfl⟩)), hv, k⟩
theorem remB_0 {X : Nat → Prop} {w : World} {gw : Nat} {P : PW} (id : Int) (hV : WV0 X w gw P) (hP : POk P) (hXg : X gw) (hXw : ∀ b, X b → b < w.heap.size) (hmC : P.C.length ≤ 1073741824) :
  Calls Tryz.prog 54 #[.pointer (some ⟨gw, 0, none⟩), .int .i64 id] w fun e v => ∃ gone P', e = .returned (.bool gone) ∧ RemBP id P gone P' ∧ WV0 X v gw P' ∧ But (fun g => g = gw) w v := by
 refine (removeBody_o id hV hXg hXw (by have := hP.hB.len; omega) (by have := hP.hJ.len; omega) hmC hP.hB.num.2.2.1).mono ?_
 rintro e v (⟨a, rfl, k⟩ | ⟨a, rfl, k, oc', cc', hn, hv⟩)
 ·exact ⟨false, P, rfl, .inl ⟨a, rfl, rfl⟩, WVarO.kept hV k, Made.but k⟩
 ·obtain ⟨rfl, rfl⟩ := hn rfl
  exact ⟨true, remB P id, rfl, .inr ⟨a, rfl, rfl⟩, hv, k⟩
theorem remJ_0 {X : Nat → Prop} {w : World} {gw : Nat} {P : PW} (id : Int) (hV : WV0 X w gw P) (hP : POk P) (hXg : X gw) (hXw : ∀ b, X b → b < w.heap.size) :
  Calls Tryz.prog 55 #[.pointer (some ⟨gw, 0, none⟩), .int .i64 id] w fun e v => ∃ gone P', e = .returned (.bool gone) ∧ RemJP id P gone P' ∧ WV0 X v gw P' ∧ But (fun g => g = gw) w v := by
 refine (removeJoint_o id hV hXg hXw (by have := hP.hJ.len; omega) hP.hJ.num.2.2.1).mono ?_
 rintro e v (⟨a, rfl, k⟩ | ⟨a, rfl, k, hv⟩)
 ·exact ⟨false, P, rfl, .inl ⟨a, rfl, rfl⟩, WVarO.kept hV k, Made.but k⟩
 ·exact ⟨true, remJ P id, rfl, .inr ⟨a, rfl, rfl⟩, hv, k⟩
theorem do_0 {X : Nat → Prop} {w : World} {gw : Nat} {P : PW} (d : De) (bd : Bd) (hbd : BodyOf d bd) (hi : DeI d) (hV : WV0 X w gw P) (hP : POk P) (hXg : X gw) (hXw : ∀ b, X b → b < w.heap.size) (hs : Sl w d.rao d.rn d.rf) (hmC : P.C.length ≤ 1073741824) :
  Calls Tryz.prog 22 #[deV d, .pointer (some ⟨gw, 0, none⟩)] w fun e v => ∃ n er gone P', e = .returned (.tuple #[.int .i64 n, .int .i64 er, .bool gone]) ∧ StepP bd (jointOf d) (d.kd % 8) (d.a % 16) P n er gone P' ∧ WV0 X v gw P' ∧ But (fun g => g = gw) w v := by
 have lgw : gw < w.heap.size := WVar.here hV.up
 have lX : ∀ v, Made w.heap.size w v → ∀ b, X b → b < v.heap.size := fun v k b hb => Nat.lt_of_lt_of_le (hXw b hb) k.1.size
 have HAJ : ∀ v, Made w.heap.size w v → Calls Tryz.prog 52 #[.pointer (some ⟨gw, 0, none⟩), jtV (jointOf d)] v fun e u => ∃ n er, e = .returned (.tuple #[.int .i64 n, .int .i64 er]) ∧ ∃ P', AddJP (jointOf d) P n er P' ∧ WV0 X u gw P' ∧ But (fun g => g = gw) w u := fun v k =>
  (addJ_0 (jointOf d) (WVarO.kept hV k) hP hXg (lX v k) (jointOf_i hi)).mono fun _ _ ⟨n, er, P', h1, h2, h3, h4⟩ => ⟨n, er, h1, P', h2, h3, (Made.but k).then_ h4⟩
 have HRB : ∀ v, Made w.heap.size w v → Calls Tryz.prog 54 #[.pointer (some ⟨gw, 0, none⟩), .int .i64 (d.a % 16)] v fun e u => ∃ gone, e = .returned (.bool gone) ∧ ∃ P', RemBP (d.a % 16) P gone P' ∧ WV0 X u gw P' ∧ But (fun g => g = gw) w u := fun v k =>
  (remB_0 (d.a % 16) (WVarO.kept hV k) hP hXg (lX v k) hmC).mono fun _ _ ⟨g, P', h1, h2, h3, h4⟩ => ⟨g, h1, P', h2, h3, (Made.but k).then_ h4⟩
 have HRJ : ∀ v, Made w.heap.size w v → Calls Tryz.prog 55 #[.pointer (some ⟨gw, 0, none⟩), .int .i64 (d.a % 16)] v fun e u => ∃ gone, e = .returned (.bool gone) ∧ ∃ P', RemJP (d.a % 16) P gone P' ∧ WV0 X u gw P' ∧ But (fun g => g = gw) w u := fun v k =>
  (remJ_0 (d.a % 16) (WVarO.kept hV k) hP hXg (lX v k)).mono fun _ _ ⟨g, P', h1, h2, h3, h4⟩ => ⟨g, h1, P', h2, h3, (Made.but k).then_ h4⟩
 by_cases h4 : d.kd % 8 = 4
 ·refine (do_j4 d.kd d.pk d.pn d.ps d.pt d.px d.py d.pa d.vx d.vy d.sp d.de d.a d.b d.ax d.ay d.tx d.ty d.ln d.rid d.rx d.ry d.rvx d.rvy d.ran d.rsp d.rde d.rk d.rr d.rao d.rn d.rc w gw _ _ rfl rfl lgw h4 _ (jointOf d) (fun v => djoint_c d hi v) HAJ).mono ?_
  rintro e v ⟨n, er, rfl, P', h1, h2, h3⟩
  exact ⟨n, er, false, P', rfl, .inl ⟨.inl h4, rfl, h1⟩, h2, h3⟩
 ·by_cases h5 : d.kd % 8 = 5
  ·refine (do_j5 d.kd d.pk d.pn d.ps d.pt d.px d.py d.pa d.vx d.vy d.sp d.de d.a d.b d.ax d.ay d.tx d.ty d.ln d.rid d.rx d.ry d.rvx d.rvy d.ran d.rsp d.rde d.rk d.rr d.rao d.rn d.rc w gw _ _ rfl rfl lgw h5 _ (jointOf d) (fun v => djoint_c d hi v) HAJ).mono ?_
   rintro e v ⟨n, er, rfl, P', h1, h2, h3⟩
   exact ⟨n, er, false, P', rfl, .inl ⟨.inr h5, rfl, h1⟩, h2, h3⟩
  ·by_cases h6 : d.kd % 8 = 6
   ·refine (do_r6 d.kd d.pk d.pn d.ps d.pt d.px d.py d.pa d.vx d.vy d.sp d.de d.a d.b d.ax d.ay d.tx d.ty d.ln d.rid d.rx d.ry d.rvx d.rvy d.ran d.rsp d.rde d.rk d.rr d.rao d.rn d.rc w gw _ _ rfl rfl lgw h6 _ HRB).mono ?_
    rintro e v ⟨g, rfl, P', h1, h2, h3⟩
    exact ⟨0, 0, g, P', rfl, .inr (.inl ⟨h6, rfl, rfl, h1⟩), h2, h3⟩
   ·by_cases h3 : d.kd % 8 = 3
    ·refine (do_r3 d.kd d.pk d.pn d.ps d.pt d.px d.py d.pa d.vx d.vy d.sp d.de d.a d.b d.ax d.ay d.tx d.ty d.ln d.rid d.rx d.ry d.rvx d.rvy d.ran d.rsp d.rde d.rk d.rr d.rao d.rn d.rc w gw _ _ rfl rfl lgw h3 _ HRJ).mono ?_
     rintro e v ⟨g, rfl, P', h1, h2, h3'⟩
     exact ⟨0, 0, g, P', rfl, .inr (.inr (.inl ⟨h3, rfl, rfl, h1⟩)), h2, h3'⟩
    ·have hK : ¬ (d.kd % 8 = 3 ∨ d.kd % 8 = 4 ∨ d.kd % 8 = 5 ∨ d.kd % 8 = 6) := fun h => h.elim h3 (fun h => h.elim h4 (fun h => h.elim h5 h6))
     refine (do_b d.kd d.pk d.pn d.ps d.pt d.px d.py d.pa d.vx d.vy d.sp d.de d.a d.b d.ax d.ay d.tx d.ty d.ln d.rid d.rx d.ry d.rvx d.rvy d.ran d.rsp d.rde d.rk d.rr d.rao d.rn d.rc w gw _ _ rfl rfl lgw hK (fun n er u => ∃ P', AddBP bd P n er P' ∧ WV0 X u gw P' ∧ But (fun g => g = gw) w u)
      (fun bv u => ∃ ao c, bv = bodyV bd.id bd.x bd.y bd.vx bd.vy bd.an bd.sp bd.de bd.k bd.r (.slice ao bd.n c) ∧ Sl u ao bd.n bd.f ∧ ((ao = none ∧ bd.n = 0 ∧ c = 0) ∨ ∃ a, ao = some a)) ?_ ?_).mono ?_
     ·intro v k
      refine (hbd.2 v (fun hn => by obtain ⟨b, off, e, hp⟩ := hs hn; exact ⟨b, off, e, hp.kept k⟩)).mono ?_
      rintro e u ⟨ao, c, rfl, h1, h2, k1⟩
      exact ⟨_, rfl, ⟨ao, c, rfl, h1, h2⟩, k1⟩
     ·rintro v bv k ⟨ao, c, rfl, h1, h2⟩
      refine (addB_0 (⟨bd.id, bd.x, bd.y, bd.vx, bd.vy, bd.an, bd.sp, bd.de, bd.k, bd.r, ao, bd.n, c, bd.f⟩ : Bd) (WVarO.kept hV k) hP hXg (lX v k) h1 ⟨hbd.1.id, hbd.1.x, hbd.1.y, hbd.1.vx, hbd.1.vy, hbd.1.an, hbd.1.sp, hbd.1.de, hbd.1.k, hbd.1.r, hbd.1.f⟩ h2).mono ?_
      rintro e u ⟨n, er, P', rfl, hA, h3, h4⟩
      refine ⟨n, er, rfl, P', ?_, h3, (Made.but k).then_ h4⟩
      have hb : BodyP (⟨bd.id, bd.x, bd.y, bd.vx, bd.vy, bd.an, bd.sp, bd.de, bd.k, bd.r, ao, bd.n, c, bd.f⟩ : Bd) ↔ BodyP bd := ⟨fun h => ⟨h.shape, h.x, h.y, h.vx, h.vy, h.sp, h.an, h.de, h.still⟩, fun h => ⟨h.shape, h.x, h.y, h.vx, h.vy, h.sp, h.an, h.de, h.still⟩⟩
      rcases hA with ⟨a, b, c, d⟩ | ⟨a, b, c, d⟩ | ⟨a, b, c, d⟩
      ·exact .inl ⟨fun h => a (hb.2 h), b, c, d⟩
      ·exact .inr (.inl ⟨hb.1 a, b, c, d⟩)
      ·exact .inr (.inr ⟨hb.1 a, b, c, d⟩)
     ·rintro e v ⟨n, er, rfl, P', h1, h2, h3⟩
      exact ⟨n, er, false, P', rfl, .inr (.inr (.inr ⟨hK, rfl, h1⟩)), h2, h3⟩
end Go.Proofs.YtjhcejmfiekjgaaGreat.Fx
/- Rows of one's own and stretches of cells: an append that says which row turned; a block written whole. -/
namespace Go.Proofs.YtjhcejmfiekjgaaGreat.Fx
open Go.ChangeShapes Go.WideShapes Go.ChangeAt Go.RowKit
set_option linter.unusedVariables false
theorem wpList_append_at {P : Program} {w : World} {ops : Array Oper} {rest : List Oper} {o : Oper} {a : Act} {Q : Exit → Act → World → Prop} (hgd : o.guard = none) (s x : Operand) (t : TypeId)
  (ho : o.op = .call { callee := .builtin .append, args := #[s, x], argTypes := #[t, t] })
  (base : Nat) (e : TypeId) (i : TypeInfo) (z : Value) (size bytes : Nat) (ht : P.underlying t = some (.slice e)) (hi : P.info? e = some i) (hz : i.zero = some z)
  (hsize : i.size = size) (hby : i.bytes = bytes) (hzs : z.cells.size = size) (hsz : 0 < size)
  (v : Value) (n : Nat) (xs : List Value) (hs : a.eval s = v) (hown : w.ownsRow base e size v n xs)
  (ad : Addr) (m c : Nat) (news : List Value) (hx : a.eval x = .slice (some ad) m c) (hl : news.length = m * size) (hnews : ∀ j u, news[j]? = some u → w.cell? (ad.add j) = some u) (h1 : ∀ u ∈ news, u.oneCell' = true)
  (h63 : n + m ≤ maxLen) (hbytes : (n + m) * bytes ≤ 140737488355328) (hbase : base ≤ w.heap.size) (hm : 0 < m)
  (h : ∀ v' w', w'.ownsRow base e size v' (n + m) (xs ++ news) → But (fun b => some b = v.ownBlock) w w' → (v'.ownBlock = v.ownBlock ∨ v'.ownBlock = some w.heap.size) → wpList P ops Q rest (a.put o.dst v') w') : wpList P ops Q (o :: rest) a w := by
 refine wpList_plain hgd fun _ hK => ?_
 obtain ⟨v', w', hr, h2, h3, _, h5⟩ := run_append_own_at (P := P) (w := w) base t o.type e i z size bytes ht hi hz hsize hby hzs hsz v n xs hown ad m c news hl hnews h1 h63 hbytes hbase
 have hf := append_frozen (P := P) w base t o.type e i z size bytes ht hi hz hsize hby hsz v n xs hown ad m c news hl hnews h1 h63 hbytes hm hr
 have hb : But (fun b => some b = v.ownBlock) w w' := ⟨h3.os, h3.tape, h3.output, h3.size, fun b hb hx => h3.block b hb (fun e => hx (by rw [e])), hf⟩
 unfold Oper.wp execOp
 simp only [ho, resolve, invoke, builtin, Sem.run_bind, Sem.run_pure, Result.andThen_ok, List.map_toArray, List.map_cons, List.map_nil, hs, hx, hr]
 exact hK _ _ (h v' w' h2 hb h5)
theorem LsB.rangeAt {α : Type} {enc : α → List Value} {k : Nat} {w : World} {b off : Nat} {l : List α} (h : LsB enc k w b off l) {i : Nat} {x : α} (hx : l[i]? = some x) : w.rangeAt b (off + i * k) (enc x) := fun j v hv => h i x hx j v hv
theorem there_of {w : World} {g n : Nat} {t : TypeId} {A : Array Value} (h : Has w g t A) (hs : n ≤ A.size) : w.there g 0 n := fun j hj => ⟨by rw [Nat.zero_add, h.at_]; simp; omega, h.free _⟩
theorem Made.setCells {B g : Nat} (hg : B ≤ g) : ∀ (vs : List Value) (o : Nat) {a w : World}, Made B a w → Made B a (w.setCells g o vs)
 | [], _, _, _, h => h
 | x :: vs, o, a, w, h => Made.setCells hg vs (o + 1) (h.put (p := ⟨g, o, none⟩) hg x)
theorem Has.whole {w : World} {g : Nat} {t : TypeId} {A : Array Value} (h : Has w g t A) {vs : Array Value} (hs : vs.size = A.size) : Has (w.setCells g 0 vs.toList) g t vs := by
 obtain ⟨A', h1, h2, h3, h4⟩ := Has.setCells vs.toList 0 h
 have e : A' = vs := by
  refine Array.ext (by omega) fun i hi hi' => ?_
  have h5 := h4 i vs[i] (by simp [hi']) (by omega)
  rw [Nat.zero_add, Array.getElem?_eq_getElem hi] at h5
  exact Option.some.inj h5
 rw [e] at h1
 exact h1
end Go.Proofs.YtjhcejmfiekjgaaGreat.Fx