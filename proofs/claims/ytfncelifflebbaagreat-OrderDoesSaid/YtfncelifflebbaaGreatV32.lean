/- OrA OrF OrP MassA MassQ MassC MassB -/
import Derived.Test.YtfncelifflebbaaGreatV0
import Derived.Test.YtfncelifflebbaaGreatV1
import Derived.Test.YtfncelifflebbaaGreatV4
import Derived.Test.YtfncelifflebbaaGreatV5
import Derived.Test.YtfncelifflebbaaGreatV31
import Derived.BigQuiet
import Derived.Deep.LoopGhost
import Derived.LoopN
import Derived.WalkMore

/- Orders, plain. -/

namespace Go.Proofs.YtfncelifflebbaaGreat.Fx
open Go.ChangeShapes Go.WideShapes Go.ChangeAt Go.RowKit
set_option linter.unusedVariables false

structure Or where
  kd : Int
  id : Int
  a : Int
  b : Int
  x : Int
  y : Int
  vx : Int
  vy : Int
  an : Int
  sp : Int
  de : Int
  ln : Int
  k : Int
  r : Int
  ao : Option Addr
  n : Nat
  c : Nat
  f : Cs
abbrev orV (o : Or) : Value := .agg #[.int .i64 o.kd, .int .i64 o.id, .int .i64 o.a, .int .i64 o.b, .int .i64 o.x, .int .i64 o.y, .int .i64 o.vx, .int .i64 o.vy, .int .i64 o.an, .int .i64 o.sp, .int .i64 o.de, .int .i64 o.ln, .int .i64 o.k, .int .i64 o.r, .slice o.ao o.n o.c]
def encO (o : Or) : List Value := [.int .i64 o.kd, .int .i64 o.id, .int .i64 o.a, .int .i64 o.b, .int .i64 o.x, .int .i64 o.y, .int .i64 o.vx, .int .i64 o.vy, .int .i64 o.an, .int .i64 o.sp, .int .i64 o.de, .int .i64 o.ln, .int .i64 o.k, .int .i64 o.r, .slice o.ao o.n o.c]
structure OrI (o : Or) : Prop where
  kd : I64 o.kd
  id : I64 o.id
  a : I64 o.a
  b : I64 o.b
  x : I64 o.x
  y : I64 o.y
  vx : I64 o.vx
  vy : I64 o.vy
  an : I64 o.an
  sp : I64 o.sp
  de : I64 o.de
  ln : I64 o.ln
  k : I64 o.k
  r : I64 o.r
  f : Cin o.f o.n
def bodyOr (o : Or) : Bd := ⟨0, o.x, o.y, o.vx, o.vy, o.an, o.sp, o.de, o.k, o.r, o.ao, o.n, o.c, o.f⟩
def jointOr (o : Or) : Jt := ⟨0, o.a, o.b, o.x, o.y, o.vx, o.vy, o.ln⟩
theorem OrI.body {o : Or} (h : OrI o) : BdI (bodyOr o) := ⟨i64_0, h.x, h.y, h.vx, h.vy, h.an, h.sp, h.de, h.k, h.r, h.f⟩
theorem OrI.joint {o : Or} (h : OrI o) : JtI (jointOr o) := ⟨i64_0, h.a, h.b, h.x, h.y, h.vx, h.vy, h.ln⟩
def Or.kind (k : Int) : Or := ⟨k, 0, 0, 0, 0, 0, 0, 0, 0, 0, 0, 0, 0, 0, none, 0, 0, fun _ => (0, 0)⟩
def usedOr (o : Or) : Or :=
  if o.kd = 1 then ⟨1, 0, 0, 0, o.x, o.y, o.vx, o.vy, o.an, o.sp, o.de, 0, o.k, o.r, o.ao, o.n, o.c, o.f⟩
  else if o.kd = 2 ∨ o.kd = 4 then { Or.kind o.kd with id := o.id }
  else if o.kd = 3 then ⟨3, 0, o.a, o.b, o.x, o.y, o.vx, o.vy, 0, 0, 0, o.ln, 0, 0, none, 0, 0, fun _ => (0, 0)⟩
  else if o.kd = 5 then ⟨5, o.id, 0, 0, 0, 0, o.vx, o.vy, 0, o.sp, 0, 0, 0, 0, none, 0, 0, fun _ => (0, 0)⟩
  else if o.kd = 6 then ⟨6, 0, 0, 0, 0, 0, o.vx, o.vy, 0, 0, 0, 0, 0, 0, none, 0, 0, fun _ => (0, 0)⟩
  else Or.kind o.kd
def BareO (o : Or) : Prop := o.k = 0 ∧ o.r = 0 ∧ o.n = 0 ∧ o.de = 0 ∧ o.an = 0
def OrderP (o : Or) : Prop :=
  (o.kd = 1 ∧ o.id = 0 ∧ o.a = 0 ∧ o.b = 0 ∧ o.ln = 0 ∧ BodyP (bodyOr o)) ∨
  ((o.kd = 2 ∨ o.kd = 4) ∧ BareO o ∧ 0 < o.id ∧ o.a = 0 ∧ o.b = 0 ∧ (o.x = 0 ∧ o.y = 0) ∧ (o.vx = 0 ∧ o.vy = 0) ∧ o.sp = 0 ∧ o.ln = 0) ∨
  (o.kd = 3 ∧ BareO o ∧ o.id = 0 ∧ o.sp = 0 ∧ JointP (jointOr o)) ∨
  (o.kd = 5 ∧ BareO o ∧ 0 < o.id ∧ o.a = 0 ∧ o.b = 0 ∧ (o.x = 0 ∧ o.y = 0) ∧ o.ln = 0 ∧ Inn o.vx 4611686018427387904 ∧ Inn o.vy 4611686018427387904 ∧ Inn o.sp 4611686018427387904) ∨
  (o.kd = 6 ∧ BareO o ∧ o.id = 0 ∧ o.a = 0 ∧ o.b = 0 ∧ (o.x = 0 ∧ o.y = 0) ∧ o.sp = 0 ∧ o.ln = 0 ∧ Inn o.vx 17592186044416 ∧ Inn o.vy 17592186044416)
end Go.Proofs.YtfncelifflebbaaGreat.Fx


/- order.body, order.joint, order.fits. -/


namespace Go.Proofs.YtfncelifflebbaaGreat.Fx
open Go.ChangeShapes Go.WideShapes Go.ChangeAt Go.RowKit
set_option linter.unusedVariables false

set_option maxRecDepth 100000 in
set_option maxHeartbeats 16000000 in
theorem obody_c (kd id a b x y vx vy an sp de ln k r : Int) (ao : Option Addr) (n c : Nat) (w : World) :
    Calls Tryz.prog 76 #[.agg #[.int .i64 kd, .int .i64 id, .int .i64 a, .int .i64 b, .int .i64 x, .int .i64 y, .int .i64 vx, .int .i64 vy, .int .i64 an, .int .i64 sp, .int .i64 de, .int .i64 ln, .int .i64 k, .int .i64 r, .slice ao n c]] w fun e v => e = .returned (bodyV 0 x y vx vy an sp de k r (.slice ao n c)) ∧ Made w.heap.size w v := by
  obtain ⟨W, eW⟩ : ∃ W, W = (w.alloc (.cells #[.int .i64 kd, .int .i64 id, .int .i64 a, .int .i64 b, .int .i64 x, .int .i64 y, .int .i64 vx, .int .i64 vy, .int .i64 an, .int .i64 sp, .int .i64 de, .int .i64 ln, .int .i64 k, .int .i64 r, .slice ao n c] 29)).alloc (.cells #[.int .i64 0, .int .i64 0, .int .i64 0, .int .i64 0, .int .i64 0, .int .i64 0, .int .i64 0, .int .i64 0, .int .i64 0, .int .i64 0, .slice none 0 0] 35) := ⟨_, rfl⟩
  have KW : Hid (Made w.heap.size w W) := by unfold Hid; rw [eW]; exact ((Made.rfl_ _ _).cells (Nat.le_refl _) _ _).cells (by simp) _ _
  have HB : Hid (Has W w.heap.size 29 #[.int .i64 kd, .int .i64 id, .int .i64 a, .int .i64 b, .int .i64 x, .int .i64 y, .int .i64 vx, .int .i64 vy, .int .i64 an, .int .i64 sp, .int .i64 de, .int .i64 ln, .int .i64 k, .int .i64 r, .slice ao n c]) := by unfold Hid; rw [eW]; exact (has_new _ _ _).more _
  have HR : Hid (Has W (w.heap.size + 1) 35 #[.int .i64 0, .int .i64 0, .int .i64 0, .int .i64 0, .int .i64 0, .int .i64 0, .int .i64 0, .int .i64 0, .int .i64 0, .int .i64 0, .slice none 0 0]) := by unfold Hid; rw [eW]; exact has_nxt' _ _ _ _
  obtain ⟨g1, eg1⟩ : ∃ g, w.heap.size = g := ⟨_, rfl⟩
  obtain ⟨g2, eg2⟩ : ∃ g, g1 + 1 = g := ⟨_, rfl⟩
  have hw2 : w.heap.size ≤ g2 := by omega
  rw [eg1] at HB
  rw [eg1, eg2] at HR
  have b0 := HB.out.at_ 0
  have b1 := HB.out.at_ 1
  have b2 := HB.out.at_ 2
  have b3 := HB.out.at_ 3
  have b4 := HB.out.at_ 4
  have b5 := HB.out.at_ 5
  have b6 := HB.out.at_ 6
  have b7 := HB.out.at_ 7
  have b8 := HB.out.at_ 8
  have b9 := HB.out.at_ 9
  have b10 := HB.out.at_ 10
  have b11 := HB.out.at_ 11
  have b12 := HB.out.at_ 12
  have b13 := HB.out.at_ 13
  have b14 := HB.out.at_ 14
  simp at b0 b1 b2 b3 b4 b5 b6 b7 b8 b9 b10 b11 b12 b13 b14
  have l1 : g1 < W.heap.size := HB.out.here
  have r_0 := HR.out.at_ 0
  have r_1 := HR.out.at_ 1
  have r_2 := HR.out.at_ 2
  have r_3 := HR.out.at_ 3
  have r_4 := HR.out.at_ 4
  have r_5 := HR.out.at_ 5
  have r_6 := HR.out.at_ 6
  have r_7 := HR.out.at_ 7
  have r_8 := HR.out.at_ 8
  have r_9 := HR.out.at_ 9
  have r_10 := HR.out.at_ 10
  simp at r_0 r_1 r_2 r_3 r_4 r_5 r_6 r_7 r_8 r_9 r_10
  have l2 : g2 < W.heap.size := HR.out.here
  have f2 : ∀ i, W.frozen? ⟨g2, i, none⟩ = false := HR.out.free
  go_enter Tryz.func76, Tryz.ntmps76
  go_upto_region 1 with fail
  rw [← eW]
  clear eW
  try rw [eg1]
  try rw [eg2]
  go_wp2_with fail
  obtain ⟨V, eV⟩ : ∃ V, V = (((((((((((W).setCell ⟨g2, 0, none⟩ (.int .i64 0)).setCell ⟨g2, 1, none⟩ (.int .i64 x)).setCell ⟨g2, 2, none⟩ (.int .i64 y)).setCell ⟨g2, 3, none⟩ (.int .i64 vx)).setCell ⟨g2, 4, none⟩ (.int .i64 vy)).setCell ⟨g2, 5, none⟩ (.int .i64 an)).setCell ⟨g2, 6, none⟩ (.int .i64 sp)).setCell ⟨g2, 7, none⟩ (.int .i64 de)).setCell ⟨g2, 8, none⟩ (.int .i64 k)).setCell ⟨g2, 9, none⟩ (.int .i64 r)).setCell ⟨g2, 10, none⟩ (.slice ao n c) := ⟨_, rfl⟩
  have kV : But (fun b => b = g2) W V := by rw [eV]; exact ((((((((((((But.rfl_ (fun b => b = g2) W).put (p := ⟨g2, 0, none⟩) (.inl rfl) _).put (p := ⟨g2, 1, none⟩) (.inl rfl) _).put (p := ⟨g2, 2, none⟩) (.inl rfl) _).put (p := ⟨g2, 3, none⟩) (.inl rfl) _).put (p := ⟨g2, 4, none⟩) (.inl rfl) _).put (p := ⟨g2, 5, none⟩) (.inl rfl) _).put (p := ⟨g2, 6, none⟩) (.inl rfl) _).put (p := ⟨g2, 7, none⟩) (.inl rfl) _).put (p := ⟨g2, 8, none⟩) (.inl rfl) _).put (p := ⟨g2, 9, none⟩) (.inl rfl) _).put (p := ⟨g2, 10, none⟩) (.inl rfl) _)
  have hV : Has V g2 35 #[.int .i64 0, .int .i64 x, .int .i64 y, .int .i64 vx, .int .i64 vy, .int .i64 an, .int .i64 sp, .int .i64 de, .int .i64 k, .int .i64 r, .slice ao n c] := by rw [eV]; exact HR.out.put11 _ _ _ _ _ _ _ _ _ _ _ 
  have KV : Made w.heap.size w V := But.made_ KW.out kV KW.out.1.size (fun b hb => by have hb : b = g2 := hb; omega)
  try rw [← eV]
  clear eV b0 b1 b2 b3 b4 b5 b6 b7 b8 b9 b10 b11 b12 b13 b14 l1 r_0 r_1 r_2 r_3 r_4 r_5 r_6 r_7 r_8 r_9 r_10 l2 f2
  have q0 := hV.at_ 0
  have q1 := hV.at_ 1
  have q2 := hV.at_ 2
  have q3 := hV.at_ 3
  have q4 := hV.at_ 4
  have q5 := hV.at_ 5
  have q6 := hV.at_ 6
  have q7 := hV.at_ 7
  have q8 := hV.at_ 8
  have q9 := hV.at_ 9
  have q10 := hV.at_ 10
  simp at q0 q1 q2 q3 q4 q5 q6 q7 q8 q9 q10
  exact bodyPost_ret (v := bodyV 0 x y vx vy an sp de k r (.slice ao n c)) (by simp [results, Tryz.results76, go_sem, q0, q1, q2, q3, q4, q5, q6, q7, q8, q9, q10]) rfl ⟨rfl, KV⟩
set_option maxRecDepth 100000 in
set_option maxHeartbeats 16000000 in
theorem ojoint_c (kd id a b x y vx vy an sp de ln k r : Int) (ao : Option Addr) (n c : Nat) (w : World) :
    Calls Tryz.prog 77 #[.agg #[.int .i64 kd, .int .i64 id, .int .i64 a, .int .i64 b, .int .i64 x, .int .i64 y, .int .i64 vx, .int .i64 vy, .int .i64 an, .int .i64 sp, .int .i64 de, .int .i64 ln, .int .i64 k, .int .i64 r, .slice ao n c]] w fun e v => e = .returned (.agg #[.int .i64 0, .int .i64 a, .int .i64 b, .int .i64 x, .int .i64 y, .int .i64 vx, .int .i64 vy, .int .i64 ln]) ∧ Made w.heap.size w v := by
  obtain ⟨W, eW⟩ : ∃ W, W = (w.alloc (.cells #[.int .i64 kd, .int .i64 id, .int .i64 a, .int .i64 b, .int .i64 x, .int .i64 y, .int .i64 vx, .int .i64 vy, .int .i64 an, .int .i64 sp, .int .i64 de, .int .i64 ln, .int .i64 k, .int .i64 r, .slice ao n c] 29)).alloc (.cells #[.int .i64 0, .int .i64 0, .int .i64 0, .int .i64 0, .int .i64 0, .int .i64 0, .int .i64 0, .int .i64 0] 60) := ⟨_, rfl⟩
  have KW : Hid (Made w.heap.size w W) := by unfold Hid; rw [eW]; exact ((Made.rfl_ _ _).cells (Nat.le_refl _) _ _).cells (by simp) _ _
  have HB : Hid (Has W w.heap.size 29 #[.int .i64 kd, .int .i64 id, .int .i64 a, .int .i64 b, .int .i64 x, .int .i64 y, .int .i64 vx, .int .i64 vy, .int .i64 an, .int .i64 sp, .int .i64 de, .int .i64 ln, .int .i64 k, .int .i64 r, .slice ao n c]) := by unfold Hid; rw [eW]; exact (has_new _ _ _).more _
  have HR : Hid (Has W (w.heap.size + 1) 60 #[.int .i64 0, .int .i64 0, .int .i64 0, .int .i64 0, .int .i64 0, .int .i64 0, .int .i64 0, .int .i64 0]) := by unfold Hid; rw [eW]; exact has_nxt' _ _ _ _
  obtain ⟨g1, eg1⟩ : ∃ g, w.heap.size = g := ⟨_, rfl⟩
  obtain ⟨g2, eg2⟩ : ∃ g, g1 + 1 = g := ⟨_, rfl⟩
  have hw2 : w.heap.size ≤ g2 := by omega
  rw [eg1] at HB
  rw [eg1, eg2] at HR
  have b_0 := HB.out.at_ 0
  have b_1 := HB.out.at_ 1
  have b_2 := HB.out.at_ 2
  have b_3 := HB.out.at_ 3
  have b_4 := HB.out.at_ 4
  have b_5 := HB.out.at_ 5
  have b_6 := HB.out.at_ 6
  have b_7 := HB.out.at_ 7
  have b_8 := HB.out.at_ 8
  have b_9 := HB.out.at_ 9
  have b_10 := HB.out.at_ 10
  have b_11 := HB.out.at_ 11
  have b_12 := HB.out.at_ 12
  have b_13 := HB.out.at_ 13
  have b_14 := HB.out.at_ 14
  simp at b_0 b_1 b_2 b_3 b_4 b_5 b_6 b_7 b_8 b_9 b_10 b_11 b_12 b_13 b_14
  have l1 : g1 < W.heap.size := HB.out.here
  have r_0 := HR.out.at_ 0
  have r_1 := HR.out.at_ 1
  have r_2 := HR.out.at_ 2
  have r_3 := HR.out.at_ 3
  have r_4 := HR.out.at_ 4
  have r_5 := HR.out.at_ 5
  have r_6 := HR.out.at_ 6
  have r_7 := HR.out.at_ 7
  simp at r_0 r_1 r_2 r_3 r_4 r_5 r_6 r_7
  have l2 : g2 < W.heap.size := HR.out.here
  have f2 : ∀ i, W.frozen? ⟨g2, i, none⟩ = false := HR.out.free
  go_enter Tryz.func77, Tryz.ntmps77
  go_upto_region 1 with fail
  rw [← eW]
  clear eW
  try rw [eg1]
  try rw [eg2]
  go_wp2_with fail
  obtain ⟨V, eV⟩ : ∃ V, V = ((((((((W).setCell ⟨g2, 0, none⟩ (.int .i64 0)).setCell ⟨g2, 1, none⟩ (.int .i64 a)).setCell ⟨g2, 2, none⟩ (.int .i64 b)).setCell ⟨g2, 3, none⟩ (.int .i64 x)).setCell ⟨g2, 4, none⟩ (.int .i64 y)).setCell ⟨g2, 5, none⟩ (.int .i64 vx)).setCell ⟨g2, 6, none⟩ (.int .i64 vy)).setCell ⟨g2, 7, none⟩ (.int .i64 ln) := ⟨_, rfl⟩
  have kV : But (fun b => b = g2) W V := by rw [eV]; exact (((((((((But.rfl_ (fun b => b = g2) W).put (p := ⟨g2, 0, none⟩) (.inl rfl) _).put (p := ⟨g2, 1, none⟩) (.inl rfl) _).put (p := ⟨g2, 2, none⟩) (.inl rfl) _).put (p := ⟨g2, 3, none⟩) (.inl rfl) _).put (p := ⟨g2, 4, none⟩) (.inl rfl) _).put (p := ⟨g2, 5, none⟩) (.inl rfl) _).put (p := ⟨g2, 6, none⟩) (.inl rfl) _).put (p := ⟨g2, 7, none⟩) (.inl rfl) _)
  have hV : Has V g2 60 #[.int .i64 0, .int .i64 a, .int .i64 b, .int .i64 x, .int .i64 y, .int .i64 vx, .int .i64 vy, .int .i64 ln] := by rw [eV]; exact (((((((HR.out.put 0 _).put 1 _).put 2 _).put 3 _).put 4 _).put 5 _).put 6 _).put 7 _
  have KV : Made w.heap.size w V := But.made_ KW.out kV KW.out.1.size (fun b hb => by have hb : b = g2 := hb; omega)
  try rw [← eV]
  clear eV b_0 b_1 b_2 b_3 b_4 b_5 b_6 b_7 b_8 b_9 b_10 b_11 b_12 b_13 b_14 l1 r_0 r_1 r_2 r_3 r_4 r_5 r_6 r_7 l2 f2
  have q0 := hV.at_ 0
  have q1 := hV.at_ 1
  have q2 := hV.at_ 2
  have q3 := hV.at_ 3
  have q4 := hV.at_ 4
  have q5 := hV.at_ 5
  have q6 := hV.at_ 6
  have q7 := hV.at_ 7
  simp at q0 q1 q2 q3 q4 q5 q6 q7
  exact bodyPost_ret (v := .agg #[.int .i64 0, .int .i64 a, .int .i64 b, .int .i64 x, .int .i64 y, .int .i64 vx, .int .i64 vy, .int .i64 ln]) (by simp [results, Tryz.results77, go_sem, q0, q1, q2, q3, q4, q5, q6, q7]) rfl ⟨rfl, KV⟩
end Go.Proofs.YtfncelifflebbaaGreat.Fx


/- order.execute by kinds (but Push). -/


namespace Go.Proofs.YtfncelifflebbaaGreat.Fx
open Go.ChangeShapes Go.WideShapes Go.ChangeAt Go.RowKit
set_option linter.unusedVariables false

set_option maxRecDepth 100000 in
set_option maxHeartbeats 16000000 in
theorem exec6 (id a b x y vx vy an sp de ln k r : Int) (ao : Option Addr) (n c : Nat) (w : World) (gw : Nat) (lgw : gw < w.heap.size) {c0 c1 c2 c3 c4 c5 c6 c7 : Value} (hH : Has w gw 49 #[c0, c1, c2, c3, c4, c5, c6, c7]) :
    Calls Tryz.prog 46 #[.pointer (some ⟨gw, 0, none⟩), .agg #[.int .i64 6, .int .i64 id, .int .i64 a, .int .i64 b, .int .i64 x, .int .i64 y, .int .i64 vx, .int .i64 vy, .int .i64 an, .int .i64 sp, .int .i64 de, .int .i64 ln, .int .i64 k, .int .i64 r, .slice ao n c]] w fun e v => e = .returned (.int .i64 0) ∧ But (fun b => b = gw) w v ∧ Has v gw 49 #[c0, c1, c2, .int .i64 vx, .int .i64 vy, c5, c6, c7] := by
  have HH := hid hH
  clear hH
  obtain ⟨W, eW⟩ : ∃ W, W = w.alloc (.cells #[.int .i64 6, .int .i64 id, .int .i64 a, .int .i64 b, .int .i64 x, .int .i64 y, .int .i64 vx, .int .i64 vy, .int .i64 an, .int .i64 sp, .int .i64 de, .int .i64 ln, .int .i64 k, .int .i64 r, .slice ao n c] 29) := ⟨_, rfl⟩
  have KW : Hid (Made w.heap.size w W) := by unfold Hid; rw [eW]; exact (Made.rfl_ _ _).cells (Nat.le_refl _) _ _
  have HB : Hid (Has W w.heap.size 29 #[.int .i64 6, .int .i64 id, .int .i64 a, .int .i64 b, .int .i64 x, .int .i64 y, .int .i64 vx, .int .i64 vy, .int .i64 an, .int .i64 sp, .int .i64 de, .int .i64 ln, .int .i64 k, .int .i64 r, .slice ao n c]) := by unfold Hid; rw [eW]; exact has_new _ _ _
  obtain ⟨g1, eg1⟩ : ∃ g, w.heap.size = g := ⟨_, rfl⟩
  have HG1 := hid eg1
  rw [eg1] at HB
  have b_0 := HB.out.at_ 0
  have b_1 := HB.out.at_ 1
  have b_2 := HB.out.at_ 2
  have b_3 := HB.out.at_ 3
  have b_4 := HB.out.at_ 4
  have b_5 := HB.out.at_ 5
  have b_6 := HB.out.at_ 6
  have b_7 := HB.out.at_ 7
  have b_8 := HB.out.at_ 8
  have b_9 := HB.out.at_ 9
  have b_10 := HB.out.at_ 10
  have b_11 := HB.out.at_ 11
  have b_12 := HB.out.at_ 12
  have b_13 := HB.out.at_ 13
  have b_14 := HB.out.at_ 14
  simp at b_0 b_1 b_2 b_3 b_4 b_5 b_6 b_7 b_8 b_9 b_10 b_11 b_12 b_13 b_14
  have l1 : g1 < W.heap.size := HB.out.here
  go_enter Tryz.func46, Tryz.ntmps46
  go_upto_region 1 with fail
  rw [← eW]
  clear eW
  try rw [eg1]
  clear eg1
  have HW1 := hid (HH.out.stays KW.out lgw)
  have y_0 := HW1.out.at_ 0
  have y_1 := HW1.out.at_ 1
  have y_2 := HW1.out.at_ 2
  have y_3 := HW1.out.at_ 3
  have y_4 := HW1.out.at_ 4
  have y_5 := HW1.out.at_ 5
  have y_6 := HW1.out.at_ 6
  have y_7 := HW1.out.at_ 7
  simp at y_0 y_1 y_2 y_3 y_4 y_5 y_6 y_7
  have lw : gw < W.heap.size := HW1.out.here
  have fw : ∀ i, W.frozen? ⟨gw, i, none⟩ = false := HW1.out.free
  obtain ⟨V, eV⟩ : ∃ V, V = (W.setCell ⟨gw, 3, none⟩ (.int .i64 vx)).setCell ⟨gw, 4, none⟩ (.int .i64 vy) := ⟨_, rfl⟩
  have kV : But (fun b => b = gw) W V := by rw [eV]; exact ((But.rfl_ (fun b => b = gw) W).put (p := ⟨gw, 3, none⟩) (.inl rfl) _).put (p := ⟨gw, 4, none⟩) (.inl rfl) _
  have hV : Has V gw 49 #[c0, c1, c2, .int .i64 vx, .int .i64 vy, c5, c6, c7] := by rw [eV]; exact (HW1.out.put 3 _).put 4 _
  have HV := hid hV
  have KV := hid kV
  have HEV := hid eV
  clear eV kV hV
  go_wp2_with fail
  rw [← HEV.out]
  go_ret
  exact ⟨by first | rfl | trivial, (Made.but KW.out).then_ KV.out, HV.out⟩
set_option maxRecDepth 100000 in
set_option maxHeartbeats 16000000 in
theorem exec2 (id a b x y vx vy an sp de ln k r : Int) (ao : Option Addr) (n c : Nat) (w : World) (gw : Nat) (lgw : gw < w.heap.size) (R : Bool → World → Prop) (HA : ∀ v, Made w.heap.size w v → Calls Tryz.prog 20 #[.pointer (some ⟨gw, 0, none⟩), .int .i64 id] v fun e u => ∃ gone, e = .returned (.bool gone) ∧ R gone u) :
    Calls Tryz.prog 46 #[.pointer (some ⟨gw, 0, none⟩), .agg #[.int .i64 2, .int .i64 id, .int .i64 a, .int .i64 b, .int .i64 x, .int .i64 y, .int .i64 vx, .int .i64 vy, .int .i64 an, .int .i64 sp, .int .i64 de, .int .i64 ln, .int .i64 k, .int .i64 r, .slice ao n c]] w fun e v => e = .returned (.int .i64 0) ∧ ∃ gone, R gone v := by
  have HA := hid HA
  obtain ⟨W, eW⟩ : ∃ W, W = w.alloc (.cells #[.int .i64 2, .int .i64 id, .int .i64 a, .int .i64 b, .int .i64 x, .int .i64 y, .int .i64 vx, .int .i64 vy, .int .i64 an, .int .i64 sp, .int .i64 de, .int .i64 ln, .int .i64 k, .int .i64 r, .slice ao n c] 29) := ⟨_, rfl⟩
  have KW : Hid (Made w.heap.size w W) := by unfold Hid; rw [eW]; exact (Made.rfl_ _ _).cells (Nat.le_refl _) _ _
  have HB : Hid (Has W w.heap.size 29 #[.int .i64 2, .int .i64 id, .int .i64 a, .int .i64 b, .int .i64 x, .int .i64 y, .int .i64 vx, .int .i64 vy, .int .i64 an, .int .i64 sp, .int .i64 de, .int .i64 ln, .int .i64 k, .int .i64 r, .slice ao n c]) := by unfold Hid; rw [eW]; exact has_new _ _ _
  obtain ⟨g1, eg1⟩ : ∃ g, w.heap.size = g := ⟨_, rfl⟩
  have HG1 := hid eg1
  rw [eg1] at HB
  have b_0 := HB.out.at_ 0
  have b_1 := HB.out.at_ 1
  have b_2 := HB.out.at_ 2
  have b_3 := HB.out.at_ 3
  have b_4 := HB.out.at_ 4
  have b_5 := HB.out.at_ 5
  have b_6 := HB.out.at_ 6
  have b_7 := HB.out.at_ 7
  have b_8 := HB.out.at_ 8
  have b_9 := HB.out.at_ 9
  have b_10 := HB.out.at_ 10
  have b_11 := HB.out.at_ 11
  have b_12 := HB.out.at_ 12
  have b_13 := HB.out.at_ 13
  have b_14 := HB.out.at_ 14
  simp at b_0 b_1 b_2 b_3 b_4 b_5 b_6 b_7 b_8 b_9 b_10 b_11 b_12 b_13 b_14
  have l1 : g1 < W.heap.size := HB.out.here
  go_enter Tryz.func46, Tryz.ntmps46
  go_upto_region 1 with fail
  rw [← eW]
  clear eW
  try rw [eg1]
  clear eg1
  have lw : gw < W.heap.size := Nat.lt_of_lt_of_le lgw KW.out.1.size
  go_wp2_with fail
  refine (HA.out _ KW.out).mono ?_
  rintro e w1 ⟨gone, rfl, hR⟩
  have HR := hid hR
  clear hR b_0 b_1 b_2 b_3 b_4 b_5 b_6 b_7 b_8 b_9 b_10 b_11 b_12 b_13 b_14 l1 lw
  go_wp2_with fail
  go_ret
  exact ⟨by first | rfl | trivial, gone, HR.out⟩
set_option maxRecDepth 100000 in
set_option maxHeartbeats 16000000 in
theorem exec4 (id a b x y vx vy an sp de ln k r : Int) (ao : Option Addr) (n c : Nat) (w : World) (gw : Nat) (lgw : gw < w.heap.size) (R : Bool → World → Prop) (HA : ∀ v, Made w.heap.size w v → Calls Tryz.prog 21 #[.pointer (some ⟨gw, 0, none⟩), .int .i64 id] v fun e u => ∃ gone, e = .returned (.bool gone) ∧ R gone u) :
    Calls Tryz.prog 46 #[.pointer (some ⟨gw, 0, none⟩), .agg #[.int .i64 4, .int .i64 id, .int .i64 a, .int .i64 b, .int .i64 x, .int .i64 y, .int .i64 vx, .int .i64 vy, .int .i64 an, .int .i64 sp, .int .i64 de, .int .i64 ln, .int .i64 k, .int .i64 r, .slice ao n c]] w fun e v => e = .returned (.int .i64 0) ∧ ∃ gone, R gone v := by
  have HA := hid HA
  obtain ⟨W, eW⟩ : ∃ W, W = w.alloc (.cells #[.int .i64 4, .int .i64 id, .int .i64 a, .int .i64 b, .int .i64 x, .int .i64 y, .int .i64 vx, .int .i64 vy, .int .i64 an, .int .i64 sp, .int .i64 de, .int .i64 ln, .int .i64 k, .int .i64 r, .slice ao n c] 29) := ⟨_, rfl⟩
  have KW : Hid (Made w.heap.size w W) := by unfold Hid; rw [eW]; exact (Made.rfl_ _ _).cells (Nat.le_refl _) _ _
  have HB : Hid (Has W w.heap.size 29 #[.int .i64 4, .int .i64 id, .int .i64 a, .int .i64 b, .int .i64 x, .int .i64 y, .int .i64 vx, .int .i64 vy, .int .i64 an, .int .i64 sp, .int .i64 de, .int .i64 ln, .int .i64 k, .int .i64 r, .slice ao n c]) := by unfold Hid; rw [eW]; exact has_new _ _ _
  obtain ⟨g1, eg1⟩ : ∃ g, w.heap.size = g := ⟨_, rfl⟩
  have HG1 := hid eg1
  rw [eg1] at HB
  have b_0 := HB.out.at_ 0
  have b_1 := HB.out.at_ 1
  have b_2 := HB.out.at_ 2
  have b_3 := HB.out.at_ 3
  have b_4 := HB.out.at_ 4
  have b_5 := HB.out.at_ 5
  have b_6 := HB.out.at_ 6
  have b_7 := HB.out.at_ 7
  have b_8 := HB.out.at_ 8
  have b_9 := HB.out.at_ 9
  have b_10 := HB.out.at_ 10
  have b_11 := HB.out.at_ 11
  have b_12 := HB.out.at_ 12
  have b_13 := HB.out.at_ 13
  have b_14 := HB.out.at_ 14
  simp at b_0 b_1 b_2 b_3 b_4 b_5 b_6 b_7 b_8 b_9 b_10 b_11 b_12 b_13 b_14
  have l1 : g1 < W.heap.size := HB.out.here
  go_enter Tryz.func46, Tryz.ntmps46
  go_upto_region 1 with fail
  rw [← eW]
  clear eW
  try rw [eg1]
  clear eg1
  have lw : gw < W.heap.size := Nat.lt_of_lt_of_le lgw KW.out.1.size
  go_wp2_with fail
  refine (HA.out _ KW.out).mono ?_
  rintro e w1 ⟨gone, rfl, hR⟩
  have HR := hid hR
  clear hR b_0 b_1 b_2 b_3 b_4 b_5 b_6 b_7 b_8 b_9 b_10 b_11 b_12 b_13 b_14 l1 lw
  go_wp2_with fail
  go_ret
  exact ⟨by first | rfl | trivial, gone, HR.out⟩
set_option maxRecDepth 100000 in
set_option maxHeartbeats 16000000 in
theorem exec1 (id a b x y vx vy an sp de ln k r : Int) (ao : Option Addr) (n c : Nat) (w : World) (gw : Nat) (lgw : gw < w.heap.size) (R : Int → Int → World → Prop) (HA : ∀ v, Made w.heap.size w v → Calls Tryz.prog 16 #[.pointer (some ⟨gw, 0, none⟩), bodyV 0 x y vx vy an sp de k r (.slice ao n c)] v fun e u => ∃ nn er, e = .returned (.tuple #[.int .i64 nn, .int .i64 er]) ∧ R nn er u) :
    Calls Tryz.prog 46 #[.pointer (some ⟨gw, 0, none⟩), .agg #[.int .i64 1, .int .i64 id, .int .i64 a, .int .i64 b, .int .i64 x, .int .i64 y, .int .i64 vx, .int .i64 vy, .int .i64 an, .int .i64 sp, .int .i64 de, .int .i64 ln, .int .i64 k, .int .i64 r, .slice ao n c]] w fun e v => ∃ nn er, e = .returned (.int .i64 er) ∧ R nn er v := by
  have HA := hid HA
  have HC := hid (fun v => obody_c 1 id a b x y vx vy an sp de ln k r ao n c v)
  obtain ⟨W, eW⟩ : ∃ W, W = w.alloc (.cells #[.int .i64 1, .int .i64 id, .int .i64 a, .int .i64 b, .int .i64 x, .int .i64 y, .int .i64 vx, .int .i64 vy, .int .i64 an, .int .i64 sp, .int .i64 de, .int .i64 ln, .int .i64 k, .int .i64 r, .slice ao n c] 29) := ⟨_, rfl⟩
  have KW : Hid (Made w.heap.size w W) := by unfold Hid; rw [eW]; exact (Made.rfl_ _ _).cells (Nat.le_refl _) _ _
  have HB : Hid (Has W w.heap.size 29 #[.int .i64 1, .int .i64 id, .int .i64 a, .int .i64 b, .int .i64 x, .int .i64 y, .int .i64 vx, .int .i64 vy, .int .i64 an, .int .i64 sp, .int .i64 de, .int .i64 ln, .int .i64 k, .int .i64 r, .slice ao n c]) := by unfold Hid; rw [eW]; exact has_new _ _ _
  obtain ⟨g1, eg1⟩ : ∃ g, w.heap.size = g := ⟨_, rfl⟩
  have HG1 := hid eg1
  rw [eg1] at HB
  have b_0 := HB.out.at_ 0
  have b_1 := HB.out.at_ 1
  have b_2 := HB.out.at_ 2
  have b_3 := HB.out.at_ 3
  have b_4 := HB.out.at_ 4
  have b_5 := HB.out.at_ 5
  have b_6 := HB.out.at_ 6
  have b_7 := HB.out.at_ 7
  have b_8 := HB.out.at_ 8
  have b_9 := HB.out.at_ 9
  have b_10 := HB.out.at_ 10
  have b_11 := HB.out.at_ 11
  have b_12 := HB.out.at_ 12
  have b_13 := HB.out.at_ 13
  have b_14 := HB.out.at_ 14
  simp at b_0 b_1 b_2 b_3 b_4 b_5 b_6 b_7 b_8 b_9 b_10 b_11 b_12 b_13 b_14
  have l1 : g1 < W.heap.size := HB.out.here
  go_enter Tryz.func46, Tryz.ntmps46
  go_upto_region 1 with fail
  rw [← eW]
  clear eW
  try rw [eg1]
  clear eg1
  have lw : gw < W.heap.size := Nat.lt_of_lt_of_le lgw KW.out.1.size
  go_wp2_with fail
  refine (HC.out _).mono ?_
  rintro e w1 ⟨rfl, k1⟩
  have K1 := hid (KW.out.then_ (k1.low KW.out.1.size))
  clear k1 b_0 b_1 b_2 b_3 b_4 b_5 b_6 b_7 b_8 b_9 b_10 b_11 b_12 b_13 b_14 l1 lw
  go_wp2_with fail
  refine (HA.out _ (by first | exact K1.out | exact HG1.out ▸ K1.out)).mono ?_
  rintro e w2 ⟨nn, er, rfl, hR⟩
  have HR := hid hR
  clear hR
  go_wp2_with fail
  go_ret
  exact ⟨nn, er, by first | rfl | trivial, HR.out⟩
set_option maxRecDepth 100000 in
set_option maxHeartbeats 16000000 in
theorem exec3 (id a b x y vx vy an sp de ln k r : Int) (ao : Option Addr) (n c : Nat) (w : World) (gw : Nat) (lgw : gw < w.heap.size) (R : Int → Int → World → Prop) (HA : ∀ v, Made w.heap.size w v → Calls Tryz.prog 18 #[.pointer (some ⟨gw, 0, none⟩), .agg #[.int .i64 0, .int .i64 a, .int .i64 b, .int .i64 x, .int .i64 y, .int .i64 vx, .int .i64 vy, .int .i64 ln]] v fun e u => ∃ nn er, e = .returned (.tuple #[.int .i64 nn, .int .i64 er]) ∧ R nn er u) :
    Calls Tryz.prog 46 #[.pointer (some ⟨gw, 0, none⟩), .agg #[.int .i64 3, .int .i64 id, .int .i64 a, .int .i64 b, .int .i64 x, .int .i64 y, .int .i64 vx, .int .i64 vy, .int .i64 an, .int .i64 sp, .int .i64 de, .int .i64 ln, .int .i64 k, .int .i64 r, .slice ao n c]] w fun e v => ∃ nn er, e = .returned (.int .i64 er) ∧ R nn er v := by
  have HA := hid HA
  have HC := hid (fun v => ojoint_c 3 id a b x y vx vy an sp de ln k r ao n c v)
  obtain ⟨W, eW⟩ : ∃ W, W = w.alloc (.cells #[.int .i64 3, .int .i64 id, .int .i64 a, .int .i64 b, .int .i64 x, .int .i64 y, .int .i64 vx, .int .i64 vy, .int .i64 an, .int .i64 sp, .int .i64 de, .int .i64 ln, .int .i64 k, .int .i64 r, .slice ao n c] 29) := ⟨_, rfl⟩
  have KW : Hid (Made w.heap.size w W) := by unfold Hid; rw [eW]; exact (Made.rfl_ _ _).cells (Nat.le_refl _) _ _
  have HB : Hid (Has W w.heap.size 29 #[.int .i64 3, .int .i64 id, .int .i64 a, .int .i64 b, .int .i64 x, .int .i64 y, .int .i64 vx, .int .i64 vy, .int .i64 an, .int .i64 sp, .int .i64 de, .int .i64 ln, .int .i64 k, .int .i64 r, .slice ao n c]) := by unfold Hid; rw [eW]; exact has_new _ _ _
  obtain ⟨g1, eg1⟩ : ∃ g, w.heap.size = g := ⟨_, rfl⟩
  have HG1 := hid eg1
  rw [eg1] at HB
  have b_0 := HB.out.at_ 0
  have b_1 := HB.out.at_ 1
  have b_2 := HB.out.at_ 2
  have b_3 := HB.out.at_ 3
  have b_4 := HB.out.at_ 4
  have b_5 := HB.out.at_ 5
  have b_6 := HB.out.at_ 6
  have b_7 := HB.out.at_ 7
  have b_8 := HB.out.at_ 8
  have b_9 := HB.out.at_ 9
  have b_10 := HB.out.at_ 10
  have b_11 := HB.out.at_ 11
  have b_12 := HB.out.at_ 12
  have b_13 := HB.out.at_ 13
  have b_14 := HB.out.at_ 14
  simp at b_0 b_1 b_2 b_3 b_4 b_5 b_6 b_7 b_8 b_9 b_10 b_11 b_12 b_13 b_14
  have l1 : g1 < W.heap.size := HB.out.here
  go_enter Tryz.func46, Tryz.ntmps46
  go_upto_region 1 with fail
  rw [← eW]
  clear eW
  try rw [eg1]
  clear eg1
  have lw : gw < W.heap.size := Nat.lt_of_lt_of_le lgw KW.out.1.size
  go_wp2_with fail
  refine (HC.out _).mono ?_
  rintro e w1 ⟨rfl, k1⟩
  have K1 := hid (KW.out.then_ (k1.low KW.out.1.size))
  clear k1 b_0 b_1 b_2 b_3 b_4 b_5 b_6 b_7 b_8 b_9 b_10 b_11 b_12 b_13 b_14 l1 lw
  go_wp2_with fail
  refine (HA.out _ (by first | exact K1.out | exact HG1.out ▸ K1.out)).mono ?_
  rintro e w2 ⟨nn, er, rfl, hR⟩
  have HR := hid hR
  clear hR
  go_wp2_with fail
  go_ret
  exact ⟨nn, er, by first | rfl | trivial, HR.out⟩
end Go.Proofs.YtfncelifflebbaaGreat.Fx


/- The statements' own area, of a polygon and of a circle. -/







namespace Go.Proofs.YtfncelifflebbaaGreat.Fx
open Go.ChangeShapes Go.WideShapes Go.ChangeAt Go.RowKit
set_option linter.unusedVariables false

theorem mul_is (a b r : Int) (w : World) (ha : I64 a) (hb : I64 b) (e : mulF a b = r) : Calls Tryz.prog 28 #[.int .i64 a, .int .i64 b] w fun e w' => e = .returned (.int .i64 r) ∧ w = w' := by subst e; exact mul_c a b w ha hb
theorem sumT_i64 (T : Int × Int → Int × Int → Int) (f : Cs) (n m : Nat) : I64 (sumT T f n m) := i64_rg (sum_rg T f n m)

end Go.Proofs.YtfncelifflebbaaGreat.Fx


/- Plain words for masses: circles, rectangles, densities. No Go in sight. -/

namespace Go.Proofs.YtfncelifflebbaaGreat.Fx
set_option linter.unusedVariables false

def areaC (R : Int) : Int := mulF 13493037705 (mulF R R)
def roundC (R : Int) : Int := divF (mulF (areaC R) (mulF R R)) 8589934592
def massF (d A : Int) : Int := max (mulF d A) 1
end Go.Proofs.YtfncelifflebbaaGreat.Fx

