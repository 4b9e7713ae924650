/- OtB OtD OtP OtE WlQ Open OpD WsD -/
import Derived.Test.YtjecadafjnbijaaGreatPf3
import Derived.Test.YtjecadafjnbijaaGreatPf11
import Derived.Test.YtjecadafjnbijaaGreatPf13
import Derived.Test.YtjecadafjnbijaaGreatPf14
import Derived.Test.YtjecadafjnbijaaGreatPf18
import Derived.Test.YtjecadafjnbijaaGreatPf19
import Derived.Deep.SlicePairs
import Derived.Deep.Slices
import Derived.ChangeArms
import Derived.Deep.Strs
set_option maxRecDepth 100000
set_option maxHeartbeats 64000000
/- order.execute of any order, order.Do. -/
namespace Go.Proofs.YtjecadafjnbijaaGreat.Fx
open Go.ChangeShapes Go.WideShapes Go.ChangeAt Go.RowKit
set_option linter.unusedVariables false
theorem addB_g {X : Nat → Prop} {w : World} {gw : Nat} {G : PG} (b : Bd) (hV : GV X w gw G) (hG : GOk G) (hXg : X gw) (hXw : ∀ b, X b → b < w.heap.size) (hs : Sl w b.ao b.n b.f) (hi : BdI b) (ho : (b.ao = none ∧ b.n = 0 ∧ b.c = 0) ∨ ∃ a, b.ao = some a) :
  Calls Tryz.prog 39 #[.pointer (some ⟨gw, 0, none⟩), bdV b] w fun e v => ∃ n er P', e = .returned (.tuple #[.int .i64 n, .int .i64 er]) ∧ AddBP b G.P n er P' ∧ GV X v gw ⟨G.tk, G.gx, G.gy, P'⟩ ∧ But (fun g => g = gw) w v := by
 have hP := hG.p
 obtain ⟨h1, h2, h3, h4⟩ := nb_I hP
 refine (addBody_c b hV hXg hXw hs hi ho h1 h2).mono ?_
 rintro e v (⟨a, rfl, k⟩ | ⟨a, b', rfl, k⟩ | ⟨a, b', c', rfl, k, ao, c, hv⟩)
 ·exact ⟨0, 2, G.P, rfl, .inl ⟨a, rfl, rfl, rfl⟩, WVar.kept hV k, Made.but k⟩
 ·exact ⟨0, 3, G.P, rfl, .inr (.inl ⟨a, b', rfl, rfl, rfl⟩), WVar.kept hV k, Made.but k⟩
 ·exact ⟨G.P.nb, 0, ⟨G.P.nb + 1, G.P.nj, G.P.B ++ [newB G.P.nb b ao c], G.P.J, G.P.C⟩, rfl, .inr (.inr ⟨a, b', c', rfl, rfl, ao, c, rfl⟩), hv, k⟩
theorem addJ_g {X : Nat → Prop} {w : World} {gw : Nat} {G : PG} (j : Jt) (hV : GV X w gw G) (hG : GOk G) (hXg : X gw) (hXw : ∀ b, X b → b < w.heap.size) (hi : JtI j) :
  Calls Tryz.prog 35 #[.pointer (some ⟨gw, 0, none⟩), jtV j] w fun e v => ∃ n er P', e = .returned (.tuple #[.int .i64 n, .int .i64 er]) ∧ AddJP j G.P n er P' ∧ GV X v gw ⟨G.tk, G.gx, G.gy, P'⟩ ∧ But (fun g => g = gw) w v := by
 have hP := hG.p
 obtain ⟨h1, h2, h3, h4⟩ := nb_I hP
 refine (addJoint_c j hV hXg hXw hi h3 h4 (by have := hP.hB.len; omega) hP.hB.num.2.2.1).mono ?_
 rintro e v (⟨a, rfl, k⟩ | ⟨a, b', rfl, k⟩ | ⟨a, b', c', rfl, k⟩ | ⟨a, b', c', d, rfl, k, hv⟩)
 ·exact ⟨0, 2, G.P, rfl, .inl ⟨a, rfl, rfl, rfl⟩, WVar.kept hV k, Made.but k⟩
 ·exact ⟨0, 4, G.P, rfl, .inr (.inl ⟨a, b', rfl, rfl, rfl⟩), WVar.kept hV k, Made.but k⟩
 ·exact ⟨0, 3, G.P, rfl, .inr (.inr (.inl ⟨a, b', c', rfl, rfl, rfl⟩)), WVar.kept hV k, Made.but k⟩
 ·exact ⟨G.P.nj, 0, ⟨G.P.nb, G.P.nj + 1, G.P.B, G.P.J ++ [newJ G.P.nj j], G.P.C⟩, rfl, .inr (.inr (.inr ⟨a, b', c', d, rfl, rfl, rfl⟩)), hv, k⟩
theorem remB_g {X : Nat → Prop} {w : World} {gw : Nat} {G : PG} (id : Int) (hV : GV X w gw G) (hG : GOk G) (hXg : X gw) (hXw : ∀ b, X b → b < w.heap.size) (hmC : G.P.C.length ≤ 1073741824) :
  Calls Tryz.prog 37 #[.pointer (some ⟨gw, 0, none⟩), .int .i64 id] w fun e v => ∃ gone P', e = .returned (.bool gone) ∧ RemBP id G.P gone P' ∧ GV X v gw ⟨G.tk, G.gx, G.gy, P'⟩ ∧ But (fun g => g = gw) w v := by
 have hP := hG.p
 obtain ⟨h1, h2, h3, h4⟩ := nb_I hP
 refine (removeBody_c id hV hXg hXw (by have := hP.hB.len; omega) (by have := hP.hJ.len; omega) hmC hP.hB.num.2.2.1).mono ?_
 rintro e v (⟨a, rfl, k⟩ | ⟨a, rfl, k, hv⟩)
 ·exact ⟨false, G.P, rfl, .inl ⟨a, rfl, rfl⟩, WVar.kept hV k, Made.but k⟩
 ·exact ⟨true, remB G.P id, rfl, .inr ⟨a, rfl, rfl⟩, hv, k⟩
theorem remJ_g {X : Nat → Prop} {w : World} {gw : Nat} {G : PG} (id : Int) (hV : GV X w gw G) (hG : GOk G) (hXg : X gw) (hXw : ∀ b, X b → b < w.heap.size)  :
  Calls Tryz.prog 38 #[.pointer (some ⟨gw, 0, none⟩), .int .i64 id] w fun e v => ∃ gone P', e = .returned (.bool gone) ∧ RemJP id G.P gone P' ∧ GV X v gw ⟨G.tk, G.gx, G.gy, P'⟩ ∧ But (fun g => g = gw) w v := by
 have hP := hG.p
 obtain ⟨h1, h2, h3, h4⟩ := nb_I hP
 refine (removeJoint_c id hV hXg hXw (by have := hP.hJ.len; omega) hP.hJ.num.2.2.1).mono ?_
 rintro e v (⟨a, rfl, k⟩ | ⟨a, rfl, k, hv⟩)
 ·exact ⟨false, G.P, rfl, .inl ⟨a, rfl, rfl⟩, WVar.kept hV k, Made.but k⟩
 ·exact ⟨true, remJ G.P id, rfl, .inr ⟨a, rfl, rfl⟩, hv, k⟩
theorem exec5 (id a b x y vx vy an sp de ln k r : Int) (ao : Option Addr) (n c : Nat) (w : World) (gw : Nat) (lgw : gw < w.heap.size) (R : World → Prop) (HA : ∀ v, Made w.heap.size w v → Calls Tryz.prog 51 #[.pointer (some ⟨gw, 0, none⟩), .agg #[.int .i64 5, .int .i64 id, .int .i64 a, .int .i64 b, .int .i64 x, .int .i64 y, .int .i64 vx, .int .i64 vy, .int .i64 an, .int .i64 sp, .int .i64 de, .int .i64 ln, .int .i64 k, .int .i64 r, .slice ao n c]] v fun e u => e = .returned (.tuple #[]) ∧ R u) :
  Calls Tryz.prog 30 #[.pointer (some ⟨gw, 0, none⟩), .agg #[.int .i64 5, .int .i64 id, .int .i64 a, .int .i64 b, .int .i64 x, .int .i64 y, .int .i64 vx, .int .i64 vy, .int .i64 an, .int .i64 sp, .int .i64 de, .int .i64 ln, .int .i64 k, .int .i64 r, .slice ao n c]] w fun e v => e = .returned (.int .i64 0) ∧ R v := by
 have HA := hid HA
 obtain ⟨W, eW⟩ : ∃ W, W = w.alloc (.cells #[.int .i64 5, .int .i64 id, .int .i64 a, .int .i64 b, .int .i64 x, .int .i64 y, .int .i64 vx, .int .i64 vy, .int .i64 an, .int .i64 sp, .int .i64 de, .int .i64 ln, .int .i64 k, .int .i64 r, .slice ao n c] 49) := ⟨_, rfl⟩
 have KW : Hid (Made w.heap.size w W) := by unfold Hid; rw [eW]; exact (Made.rfl_ _ _).cells (Nat.le_refl _) _ _
 have HB : Hid (Has W w.heap.size 49 #[.int .i64 5, .int .i64 id, .int .i64 a, .int .i64 b, .int .i64 x, .int .i64 y, .int .i64 vx, .int .i64 vy, .int .i64 an, .int .i64 sp, .int .i64 de, .int .i64 ln, .int .i64 k, .int .i64 r, .slice ao n c]) := by unfold Hid; rw [eW]; exact has_new _ _ _
 obtain ⟨g1, eg1⟩ : ∃ g, w.heap.size = g := ⟨_, rfl⟩
 have HG1 := hid eg1
 rw [eg1] at HB
 have b_0 := HB.out.at_ 0
 have b_1 := HB.out.at_ 1
 have b_2 := HB.out.at_ 2
 have b_3 := HB.out.at_ 3
 have b_4 := HB.out.at_ 4
 have b_5 := HB.out.at_ 5
 have b_6 := HB.out.at_ 6
 have b_7 := HB.out.at_ 7
 have b_8 := HB.out.at_ 8
 have b_9 := HB.out.at_ 9
 have b_10 := HB.out.at_ 10
 have b_11 := HB.out.at_ 11
 have b_12 := HB.out.at_ 12
 have b_13 := HB.out.at_ 13
 have b_14 := HB.out.at_ 14
 simp at b_0 b_1 b_2 b_3 b_4 b_5 b_6 b_7 b_8 b_9 b_10 b_11 b_12 b_13 b_14
 have l1 : g1 < W.heap.size := HB.out.here
 go_enter Tryz.func30, Tryz.ntmps30
 go_upto_region 1 with fail
 rw [← eW]
 clear eW
 try rw [eg1]
 clear eg1
 have lw : gw < W.heap.size := Nat.lt_of_lt_of_le lgw KW.out.1.size
 go_wp2_with fail
 refine (HA.out _ KW.out).mono ?_
 rintro e w1 ⟨rfl, hR⟩
 have HR := hid hR
 clear hR b_0 b_1 b_2 b_3 b_4 b_5 b_6 b_7 b_8 b_9 b_10 b_11 b_12 b_13 b_14 l1 lw
 go_wp2_with fail
 go_ret
 exact ⟨by first | rfl | trivial, HR.out⟩
theorem exec_c {X : Nat → Prop} {w : World} {gw : Nat} {G : PG} (o : Or) (hV : GV X w gw G) (hG : GOk G) (hXg : X gw) (hXw : ∀ b, X b → b < w.heap.size) (hoi : OrI o) (hoP : OrderP o) (hos : Sl w o.ao o.n o.f) (hok : (o.ao = none ∧ o.n = 0 ∧ o.c = 0) ∨ ∃ a, o.ao = some a) (hmC : G.P.C.length ≤ 1073741824)
  (HP : o.kd = 5 → ∀ v, Made w.heap.size w v → Calls Tryz.prog 51 #[.pointer (some ⟨gw, 0, none⟩), orV o] v fun e u => e = .returned (.tuple #[]) ∧ ∃ P', PushP o.id o.vx o.vy o.sp G.P P' ∧ GV X u gw ⟨G.tk, G.gx, G.gy, P'⟩ ∧ BuB (fun g => g = gw) v u) :
  Calls Tryz.prog 30 #[.pointer (some ⟨gw, 0, none⟩), orV o] w fun e v => ∃ er G', e = .returned (.int .i64 er) ∧ ExecP o G er G' ∧ GV X v gw G' ∧ BuB (fun g => g = gw) w v := by
 have lgw : gw < w.heap.size := WVar.here hV
 have lX : ∀ v, Made w.heap.size w v → ∀ b, X b → b < v.heap.size := fun v k b hb => Nat.lt_of_lt_of_le (hXw b hb) k.1.size
 have hk : o.kd = 1 ∨ o.kd = 2 ∨ o.kd = 3 ∨ o.kd = 4 ∨ o.kd = 5 ∨ o.kd = 6 := by
  rcases hoP with h | h | h | h | h
  ·exact .inl h.1
  ·have := h.1; omega
  ·have := h.1; omega
  ·have := h.1; omega
  ·have := h.1; omega
 obtain ⟨kd, id, a, b, x, y, vx, vy, an, sp, de, ln, k, r, ao, n, c, f⟩ := o
 have hk : kd = 1 ∨ kd = 2 ∨ kd = 3 ∨ kd = 4 ∨ kd = 5 ∨ kd = 6 := hk
 rcases hk with rfl | rfl | rfl | rfl | rfl | rfl
 ·refine (exec1 id a b x y vx vy an sp de ln k r ao n c w gw lgw (fun nn er u => ∃ P', AddBP (bodyOr ⟨1, id, a, b, x, y, vx, vy, an, sp, de, ln, k, r, ao, n, c, f⟩) G.P nn er P' ∧ GV X u gw ⟨G.tk, G.gx, G.gy, P'⟩ ∧ But (fun g => g = gw) w u) ?_).mono ?_
  ·intro v k'
   refine (addB_g (bodyOr ⟨1, id, a, b, x, y, vx, vy, an, sp, de, ln, k, r, ao, n, c, f⟩) (WVar.kept hV k') hG hXg (lX v k') (Sl.kept hos k') hoi.body hok).mono ?_
   rintro e u ⟨nn, er, P', rfl, h1, h2, h3⟩
   exact ⟨nn, er, rfl, P', h1, h2, (Made.but k').then_ h3⟩
  ·rintro e v ⟨nn, er, rfl, P', h1, h2, h3⟩
   exact ⟨er, ⟨G.tk, G.gx, G.gy, P'⟩, rfl, .inl ⟨rfl, nn, P', h1, rfl⟩, h2, h3.bub⟩
 ·refine (exec2 id a b x y vx vy an sp de ln k r ao n c w gw lgw (fun gone u => ∃ P', RemBP id G.P gone P' ∧ GV X u gw ⟨G.tk, G.gx, G.gy, P'⟩ ∧ But (fun g => g = gw) w u) ?_).mono ?_
  ·intro v k'
   refine (remB_g id (WVar.kept hV k') hG hXg (lX v k') hmC).mono ?_
   rintro e u ⟨gone, P', rfl, h1, h2, h3⟩
   exact ⟨gone, rfl, P', h1, h2, (Made.but k').then_ h3⟩
  ·rintro e v ⟨rfl, gone, P', h1, h2, h3⟩
   exact ⟨0, ⟨G.tk, G.gx, G.gy, P'⟩, rfl, .inr (.inl ⟨rfl, rfl, gone, P', h1, rfl⟩), h2, h3.bub⟩
 ·refine (exec3 id a b x y vx vy an sp de ln k r ao n c w gw lgw (fun nn er u => ∃ P', AddJP (jointOr ⟨3, id, a, b, x, y, vx, vy, an, sp, de, ln, k, r, ao, n, c, f⟩) G.P nn er P' ∧ GV X u gw ⟨G.tk, G.gx, G.gy, P'⟩ ∧ But (fun g => g = gw) w u) ?_).mono ?_
  ·intro v k'
   refine (addJ_g (jointOr ⟨3, id, a, b, x, y, vx, vy, an, sp, de, ln, k, r, ao, n, c, f⟩) (WVar.kept hV k') hG hXg (lX v k') hoi.joint).mono ?_
   rintro e u ⟨nn, er, P', rfl, h1, h2, h3⟩
   exact ⟨nn, er, rfl, P', h1, h2, (Made.but k').then_ h3⟩
  ·rintro e v ⟨nn, er, rfl, P', h1, h2, h3⟩
   exact ⟨er, ⟨G.tk, G.gx, G.gy, P'⟩, rfl, .inr (.inr (.inl ⟨rfl, nn, P', h1, rfl⟩)), h2, h3.bub⟩
 ·refine (exec4 id a b x y vx vy an sp de ln k r ao n c w gw lgw (fun gone u => ∃ P', RemJP id G.P gone P' ∧ GV X u gw ⟨G.tk, G.gx, G.gy, P'⟩ ∧ But (fun g => g = gw) w u) ?_).mono ?_
  ·intro v k'
   refine (remJ_g id (WVar.kept hV k') hG hXg (lX v k')).mono ?_
   rintro e u ⟨gone, P', rfl, h1, h2, h3⟩
   exact ⟨gone, rfl, P', h1, h2, (Made.but k').then_ h3⟩
  ·rintro e v ⟨rfl, gone, P', h1, h2, h3⟩
   exact ⟨0, ⟨G.tk, G.gx, G.gy, P'⟩, rfl, .inr (.inr (.inr (.inl ⟨rfl, rfl, gone, P', h1, rfl⟩))), h2, h3.bub⟩
 ·refine (exec5 id a b x y vx vy an sp de ln k r ao n c w gw lgw (fun u => ∃ P', PushP id vx vy sp G.P P' ∧ GV X u gw ⟨G.tk, G.gx, G.gy, P'⟩ ∧ BuB (fun g => g = gw) w u) (fun v k' => (HP rfl v k').mono fun e u ⟨h0, P', h1, h2, h3⟩ => ⟨h0, P', h1, h2, (Made.bub k').then_ h3⟩)).mono ?_
  rintro e v ⟨rfl, P', h1, h2, h3⟩
  exact ⟨0, ⟨G.tk, G.gx, G.gy, P'⟩, rfl, .inr (.inr (.inr (.inr (.inl ⟨rfl, rfl, P', h1, rfl⟩)))), h2, h3⟩
 ·obtain ⟨ob, oj, oc, cb, cj, cc, hH, hL⟩ := hV
  refine (exec6 id a b x y vx vy an sp de ln k r ao n c w gw lgw hH).mono ?_
  rintro e v ⟨rfl, kb, hh⟩
  exact ⟨0, ⟨G.tk, vx, vy, G.P⟩, rfl, .inr (.inr (.inr (.inr (.inr ⟨rfl, rfl, rfl⟩)))), ⟨ob, oj, oc, cb, cj, cc, hh, hL.but kb (fun b hb => by have hb : b = gw := hb; rw [hb]; exact hXg)⟩, kb.bub⟩
end Go.Proofs.YtjecadafjnbijaaGreat.Fx
/- The order of a deed, packed; orders as letters. -/
namespace Go.Proofs.YtjecadafjnbijaaGreat.Fx
open Go.ChangeShapes Go.WideShapes Go.ChangeAt Go.RowKit
set_option linter.unusedVariables false
def Or.on (o : Or) (ao : Option Addr) (c : Nat) : Or := { o with ao := ao, c := c }
theorem encO_one (o : Or) : ∀ v ∈ encO o, v.oneCell' = true := by
 intro v hv; simp [encO] at hv; rcases hv with rfl | rfl | rfl | rfl | rfl | rfl | rfl | rfl | rfl | rfl | rfl | rfl | rfl | rfl | rfl <;> rfl
def OrdV (O : Or) (B lo hi : Nat) (v : World) (x : Value) : Prop := ∃ ao c, x = .agg (encO (O.on ao c)).toArray ∧ Sl v ao O.n O.f ∧ ((ao = none ∧ O.n = 0 ∧ c = 0) ∨ ∃ a, ao = some a) ∧ (0 < O.n → ∀ b off s, ao = some ⟨b, off, s⟩ → b < B ∨ (lo ≤ b ∧ b < hi))
def BodyO (d : De) (O : Or) : Prop := O.kd = 1 → ∃ bi, I64 bi ∧ ∀ w, Sl w d.rao d.rn d.rf → Calls Tryz.prog 40 #[.agg (encD d).toArray] w fun e v => ∃ ao c, e = .returned (bodyV bi O.x O.y O.vx O.vy O.an O.sp O.de O.k O.r (.slice ao O.n c)) ∧ Sl v ao O.n O.f ∧ ((ao = none ∧ O.n = 0 ∧ c = 0) ∨ ∃ a, ao = some a) ∧ Made w.heap.size w v
def JointO (d : De) (O : Or) : Prop := O.kd = 3 → jointOf d = { jointOr O with id := (jointOf d).id }
theorem Has.whole {w : World} {g : Nat} {t : TypeId} {A : Array Value} (h : Has w g t A) {vs : Array Value} (hs : vs.size = A.size) : Has (w.setCells g 0 vs.toList) g t vs := by
 obtain ⟨A', h1, h2, h3, h4⟩ := Has.setCells vs.toList 0 h
 have e : A' = vs := by
  refine Array.ext (by omega) fun i hi hi' => ?_
  have h5 := h4 i vs[i] (by simp [hi']) (by omega)
  rw [Nat.zero_add, Array.getElem?_eq_getElem hi] at h5
  exact Option.some.inj h5
 rw [e] at h1
 exact h1
end Go.Proofs.YtjecadafjnbijaaGreat.Fx
/- order.push. -/
namespace Go.Proofs.YtjecadafjnbijaaGreat.Fx
open Go.ChangeShapes Go.WideShapes Go.ChangeAt Go.RowKit
set_option linter.unusedVariables false
theorem id_at {B : List Bd} (hup : (B.map (·.id)).Pairwise (· < ·)) {i j : Nat} {x y : Bd} (hx : B[i]? = some x) (hy : B[j]? = some y) (e : x.id = y.id) : i = j := by
 rcases Nat.lt_trichotomy i j with h | h | h
 ·have := List.pairwise_iff_getElem.1 hup i j (by simpa using (List.getElem?_eq_some_iff.1 hx).1) (by simpa using (List.getElem?_eq_some_iff.1 hy).1) h
  simp [(List.getElem?_eq_some_iff.1 hx).2, (List.getElem?_eq_some_iff.1 hy).2] at this
  omega
 ·exact h
 ·have := List.pairwise_iff_getElem.1 hup j i (by simpa using (List.getElem?_eq_some_iff.1 hy).1) (by simpa using (List.getElem?_eq_some_iff.1 hx).1) h
  simp [(List.getElem?_eq_some_iff.1 hx).2, (List.getElem?_eq_some_iff.1 hy).2] at this
  omega
theorem id_one {B : List Bd} (hup : (B.map (·.id)).Pairwise (· < ·)) {x y : Bd} (hx : x ∈ B) (hy : y ∈ B) (e : x.id = y.id) : x = y := by
 obtain ⟨i, hi⟩ := List.mem_iff_getElem?.1 hx
 obtain ⟨j, hj⟩ := List.mem_iff_getElem?.1 hy
 have := id_at hup hi hj e
 subst this
 rw [hi] at hj
 exact Option.some.inj hj
theorem wbody_det (tk nb nj gx gy : Int) (oj oc : Option Addr) (nn cj nc cc : Nat) {l : List Bd} {ao : Option Addr} {n c : Nat} (id : Int) (hn : l.length = n) (hmx : n ≤ 1073741824) (hup : (l.map (·.id)).Pairwise (· < ·)) :
  ∃ (i : Nat) (r : Bool), (r = true → ∃ x, l[i]? = some x ∧ x.id = id) ∧ (r = false → ∀ x ∈ l, x.id ≠ id) ∧ ∀ w, LsT encB 11 w ao l → Calls Tryz.prog 82 #[wdV tk nb nj gx gy (.slice ao n c) (.slice oj nn cj) (.slice oc nc cc), .int .i64 id] w fun e v => e = .returned (.tuple #[.int .i64 (i : Nat), .bool r]) ∧ Made w.heap.size w v := by
 by_cases h : ∃ x ∈ l, x.id = id
 ·obtain ⟨x, hx, e⟩ := h
  obtain ⟨i, hi⟩ := List.mem_iff_getElem?.1 hx
  refine ⟨i, true, fun _ => ⟨x, hi, e⟩, fun h => (by cases h), fun w hl => (wbody_c tk nb nj gx gy oj oc nn cj nc cc (c := c) id hn hmx hl hup).mono ?_⟩
  rintro e' v ⟨i', r', rfl, k, h1, h2⟩
  cases r' with
  | false => exact absurd e ((h2 rfl).2 x hx)
  | true =>
   obtain ⟨y, hy, ey⟩ := h1 rfl
   have : i' = i := id_at hup hy hi (ey.trans e.symm)
   subst this
   exact ⟨rfl, k⟩
 ·refine ⟨0, false, fun h => (by cases h), fun _ x hx e => h ⟨x, hx, e⟩, fun w hl => (wbody_c tk nb nj gx gy oj oc nn cj nc cc (c := c) id hn hmx hl hup).mono ?_⟩
  rintro e' v ⟨i', r', rfl, k, h1, h2⟩
  cases r' with
  | false =>
   have := (h2 rfl).1
   subst this
   exact ⟨rfl, k⟩
  | true =>
   obtain ⟨y, hy, ey⟩ := h1 rfl
   exact absurd ⟨y, List.mem_of_getElem? hy, ey⟩ h
theorem RowL.bub {α : Type} {enc : α → List Value} {k : Nat} {X : Nat → Prop} {w v : World} {g n : Nat} {t : TypeId} {l : List α} (h : RowL enc k w g t n l) (kk : BuB X w v) (hx : ¬ X g) : RowL enc k v g t n l := by
 obtain ⟨h0, A, hA, h⟩ := h
 exact ⟨h0, A, hA.bub kk hx, h⟩
theorem massB_is {b : Bd} (hd : 0 < b.de) : ∃ m i, massB b = massV m i (moveB b) (spinB b) :=
 ⟨_, _, by unfold massB massOf moveB spinB; rw [if_neg (by omega), if_neg (by omega), if_neg (by omega)]⟩
theorem opush_c {X : Nat → Prop} {w : World} {gw : Nat} (tk gx gy nb nj : Int) (B : List Bd) (J : List Jt) (C : List Ct) (kd id a b x y vx vy an sp de ln k r : Int) (ao : Option Addr) (n c : Nat) (hV : GV X w gw ⟨tk, gx, gy, ⟨nb, nj, B, J, C⟩⟩) (hG : GOk ⟨tk, gx, gy, ⟨nb, nj, B, J, C⟩⟩) (hXg : X gw) (hXw : ∀ b, X b → b < w.heap.size) (ivx : I64 vx) (ivy : I64 vy) (isp : I64 sp) :
  Calls Tryz.prog 51 #[.pointer (some ⟨gw, 0, none⟩), .agg #[.int .i64 kd, .int .i64 id, .int .i64 a, .int .i64 b, .int .i64 x, .int .i64 y, .int .i64 vx, .int .i64 vy, .int .i64 an, .int .i64 sp, .int .i64 de, .int .i64 ln, .int .i64 k, .int .i64 r, .slice ao n c]] w fun e v => e = .returned (.tuple #[]) ∧ ∃ P', PushP id vx vy sp ⟨nb, nj, B, J, C⟩ P' ∧ GV X v gw ⟨tk, gx, gy, P'⟩ ∧ BuB (fun g => g = gw) w v := by
 obtain ⟨ob, oj, oc, cb, cj, cc, hH, hL⟩ := hV
 have lgw := hH.here
 obtain ⟨nB, hnB⟩ : ∃ m, B.length = m := ⟨_, rfl⟩
 obtain ⟨nJ, hnJ⟩ : ∃ m, J.length = m := ⟨_, rfl⟩
 obtain ⟨nC, hnC⟩ : ∃ m, C.length = m := ⟨_, rfl⟩
 have hmB : nB ≤ 1024 := by rw [← hnB]; exact hG.hB.len
 have hG' : BodiesP B nb := hG.hB
 have hH : Has w gw 42 #[.int .i64 tk, .int .i64 nb, .int .i64 nj, .int .i64 gx, .int .i64 gy, .slice ob nB cb, .slice oj nJ cj, .slice oc nC cc] := by rw [← hnB, ← hnJ, ← hnC]; exact hH
 have hL : WLs X w ob cb B oj cj J oc cc C := hL
 obtain ⟨i, q, hq1, hq0, hdet⟩ := wbody_det tk nb nj gx gy oj oc nJ cj nC cc (ao := ob) (c := cb) id hnB (by omega) hG'.num.2.2.1
 have HD := hid (fun v (k' : Made w.heap.size w v) => hdet v (hL.at_.lB.below k'.1))
 have HCl := hid (fun v (k' : Made w.heap.size w v) => cloneB_c (w := v) (c := cb) hnB (by omega) (hL.at_.lB.below k'.1) (by rw [← hnB]; exact hL.okB))
 have HQ1 := hid hq1
 have HQ0 := hid hq0
 have HGB := hid hG'
 have HL := hid hL
 have HXg := hid hXg
 have HXw := hid hXw
 have HN := hid (And.intro hnB (And.intro hnJ hnC))
 have HH := hid hH
 have HLg := hid lgw
 have HmB := hid hmB
 clear hG hG' hH hL hq1 hq0 hdet hXg hXw hnB hnJ hnC lgw hmB
 obtain ⟨W, eW⟩ : ∃ W, W = w.alloc (.cells #[.int .i64 kd, .int .i64 id, .int .i64 a, .int .i64 b, .int .i64 x, .int .i64 y, .int .i64 vx, .int .i64 vy, .int .i64 an, .int .i64 sp, .int .i64 de, .int .i64 ln, .int .i64 k, .int .i64 r, .slice ao n c] 49) := ⟨_, rfl⟩
 have KW : Hid (Made w.heap.size w W) := by unfold Hid; rw [eW]; exact (Made.rfl_ _ _).cells (Nat.le_refl _) _ _
 have HB : Hid (Has W w.heap.size 49 #[.int .i64 kd, .int .i64 id, .int .i64 a, .int .i64 b, .int .i64 x, .int .i64 y, .int .i64 vx, .int .i64 vy, .int .i64 an, .int .i64 sp, .int .i64 de, .int .i64 ln, .int .i64 k, .int .i64 r, .slice ao n c]) := by unfold Hid; rw [eW]; exact has_new _ _ _
 obtain ⟨g1, eg1⟩ : ∃ g, w.heap.size = g := ⟨_, rfl⟩
 have HG1 := hid eg1
 rw [eg1] at HB
 have b_0 := HB.out.at_ 0
 have b_1 := HB.out.at_ 1
 have b_2 := HB.out.at_ 2
 have b_3 := HB.out.at_ 3
 have b_4 := HB.out.at_ 4
 have b_5 := HB.out.at_ 5
 have b_6 := HB.out.at_ 6
 have b_7 := HB.out.at_ 7
 have b_8 := HB.out.at_ 8
 have b_9 := HB.out.at_ 9
 have b_10 := HB.out.at_ 10
 have b_11 := HB.out.at_ 11
 have b_12 := HB.out.at_ 12
 have b_13 := HB.out.at_ 13
 have b_14 := HB.out.at_ 14
 simp at b_0 b_1 b_2 b_3 b_4 b_5 b_6 b_7 b_8 b_9 b_10 b_11 b_12 b_13 b_14
 have l1 : g1 < W.heap.size := HB.out.here
 go_enter Tryz.func51, Tryz.ntmps51
 go_upto_region 1 with fail
 rw [← eW]
 clear eW
 try rw [eg1]
 clear eg1
 have HW1 := hid (HH.out.stays KW.out HLg.out)
 have y_0 := HW1.out.at_ 0
 have y_1 := HW1.out.at_ 1
 have y_2 := HW1.out.at_ 2
 have y_3 := HW1.out.at_ 3
 have y_4 := HW1.out.at_ 4
 have y_5 := HW1.out.at_ 5
 have y_6 := HW1.out.at_ 6
 have y_7 := HW1.out.at_ 7
 simp at y_0 y_1 y_2 y_3 y_4 y_5 y_6 y_7
 have lw : gw < W.heap.size := HW1.out.here
 refine reg_made (by kernel_rfl) (by kernel_rfl) ?_
 intro Ty hT fw hf
 have z0 := Class.reads hf y_0
 have z1 := Class.reads hf y_1
 have z2 := Class.reads hf y_2
 have z3 := Class.reads hf y_3
 have z4 := Class.reads hf y_4
 have z5 := Class.reads hf y_5
 have z6 := Class.reads hf y_6
 have z7 := Class.reads hf y_7
 have zb := Class.reads hf b_1
 have HfM : ∀ x, Made W.heap.size W (fw x) := hf.1
 have HDf := hid (fun x => HD.out (fw x) (KW.out.then_ ((HfM x).low KW.out.1.size)))
 repeat (go_big_quiet_step ((go_at_call 82; with_reducible exact hf.made (HDf.out _))))
 refine wpQuiet_nil ?_
 intro w1 h1
 have k1 := hf.here h1
 have K1 := hid (KW.out.then_ (k1.low KW.out.1.size))
 have HV1 := hid (HW1.out.stays k1 HW1.out.here)
 have HO1 := hid (HB.out.stays k1 HB.out.here)
 clear z0 z1 z2 z3 z4 z5 z6 z7 zb HfM HDf hf h1 k1 y_0 y_1 y_2 y_3 y_4 y_5 y_6 y_7 b_0 b_1 b_2 b_3 b_4 b_5 b_6 b_7 b_8 b_9 b_10 b_11 b_12 b_13 b_14 l1 lw HW1 HB KW HD
 have hne : ¬ g1 = gw := by have := HG1.out; have := HLg.out; omega
 cases q with
 | false =>
  have HQf := hid (HQ0.out rfl)
  go_wp2_with fail
  first | refine void_end rfl rfl ?_ | refine void_ret rfl rfl ?_
  exact ⟨rfl, ⟨nb, nj, B, J, C⟩, .inl ⟨fun b hb e => absurd e (HQf.out b hb), rfl⟩, ⟨ob, oj, oc, cb, cj, cc, by rw [HN.out.1, HN.out.2.1, HN.out.2.2]; exact HV1.out, HL.out.kept K1.out⟩, Made.bub K1.out⟩
 | true =>
  obtain ⟨bx, hbx, hbi⟩ := HQ1.out rfl
  have hin : i < nB := by rw [← HN.out.1]; exact (List.getElem?_eq_some_iff.1 hbx).1
  have EB := hid hbx
  have EI := hid hbi
  have HPb := hid (HGB.out.all bx (List.mem_of_getElem? hbx))
  obtain ⟨gA, off, eob, hgA, hLB⟩ := (HL.out.kept K1.out).at_.lB (by rw [HN.out.1]; omega)
  have HBi := hid ((HL.out.at_.sB bx (List.mem_of_getElem? hbx)).2)
  have HOne := hid (fun y (hy : y ∈ B) (e : y.id = id) => id_one HGB.out.num.2.2.1 hy (List.mem_of_getElem? hbx) (e.trans hbi.symm))
  obtain ⟨x0, x1, x2, x3, x4, x5, x6, x7, x8, x9, x10, x11, x12, x13⟩ := bx
  have hcs := (hLB i _ EB.out).b11
  obtain ⟨e_0, e_1, e_2, e_3, e_4, e_5, e_6, e_7, e_8, e_9, e_10⟩ := hcs
  clear hbx hbi hLB
  subst eob
  have y_0 := HV1.out.at_ 0
  have y_1 := HV1.out.at_ 1
  have y_2 := HV1.out.at_ 2
  have y_3 := HV1.out.at_ 3
  have y_4 := HV1.out.at_ 4
  have y_5 := HV1.out.at_ 5
  have y_6 := HV1.out.at_ 6
  have y_7 := HV1.out.at_ 7
  simp at y_0 y_1 y_2 y_3 y_4 y_5 y_6 y_7
  have lw : gw < w1.heap.size := HV1.out.here
  by_cases hde : x7 ≤ 0
  ·have hq : decide (x7 ≤ 0) = true := by simpa using hde
   have HDe := hid hde
   clear hde
   go_wp2_with fail
   first | refine void_end rfl rfl ?_ | refine void_ret rfl rfl ?_
   refine ⟨rfl, ⟨nb, nj, B, J, C⟩, .inl ⟨fun b hb e => ?_, rfl⟩, ⟨_, oj, oc, cb, cj, cc, by rw [HN.out.1, HN.out.2.1, HN.out.2.2]; exact HV1.out, HL.out.kept K1.out⟩, Made.bub K1.out⟩
   rw [HOne.out b hb e]
   exact HDe.out
  have hq : decide (x7 ≤ 0) = false := by simpa using hde
  have HDe : Hid (0 < x7) := by unfold Hid; omega
  clear hde
  go_wp2_with fail
  refine (HCl.out _ K1.out).mono ?_
  rintro e w2 ⟨ao', c', rfl, hnew, k2⟩
  obtain ⟨gB, rfl, hrow⟩ := hnew.row (by omega)
  have hfr : w1.heap.size ≤ gB := hnew.fresh gB 0 none rfl
  have HNc := hid (And.intro hnew.nc hnew.cm)
  have K2 := hid (K1.out.then_ (k2.low K1.out.1.size))
  have HV2 := hid (HV1.out.stays k2 HV1.out.here)
  have HO2 := hid (HO1.out.stays k2 HO1.out.here)
  have hgwB : ¬ gB = gw := by have := HV1.out.here; omega
  have hg1B : ¬ gB = g1 := by have := HO1.out.here; omega
  have HFr : Hid (w.heap.size ≤ gB) := Nat.le_trans K1.out.1.size hfr
  have HRow := hid hrow
  clear e_0 e_1 e_2 e_3 e_4 e_5 e_6 e_7 e_8 e_9 e_10 y_0 y_1 y_2 y_3 y_4 y_5 y_6 y_7 lw hq hnew hrow hfr k2 HCl HV1 HO1 K1 hgA
  have y_0 := HV2.out.at_ 0
  have y_1 := HV2.out.at_ 1
  have y_2 := HV2.out.at_ 2
  have y_3 := HV2.out.at_ 3
  have y_4 := HV2.out.at_ 4
  have y_5 := HV2.out.at_ 5
  have y_6 := HV2.out.at_ 6
  have y_7 := HV2.out.at_ 7
  simp at y_0 y_1 y_2 y_3 y_4 y_5 y_6 y_7
  have lw : gw < w2.heap.size := HV2.out.here
  have fw2 : ∀ i, w2.frozen? ⟨gw, i, none⟩ = false := HV2.out.free
  obtain ⟨W3, eW3⟩ : ∃ V, V = w2.setCell ⟨gw, 5, none⟩ (.slice (some ⟨gB, 0, none⟩) nB c') := ⟨_, rfl⟩
  have k3 : But (fun b => b = gw) w2 W3 := by rw [eW3]; exact (But.rfl_ (fun b => b = gw) w2).put (p := ⟨gw, 5, none⟩) (.inl rfl) _
  have HV3 : Hid (Has W3 gw 42 #[.int .i64 tk, .int .i64 nb, .int .i64 nj, .int .i64 gx, .int .i64 gy, .slice (some ⟨gB, 0, none⟩) nB c', .slice oj nJ cj, .slice oc nC cc]) := by unfold Hid; rw [eW3]; exact HV2.out.put 5 _
  have HO3 := hid (HO2.out.but k3 hne)
  have HR3 := hid (HRow.out.but k3 hgwB)
  have U3 : Hid (BuB (fun g => g = gw) w W3) := (Made.bub K2.out).then_ k3.bub
  go_upto_region 4 with fail
  rw [← eW3]
  clear eW3 k3 y_0 y_1 y_2 y_3 y_4 y_5 y_6 y_7 lw fw2 HV2 HO2 HRow K2
  have y_0 := HV3.out.at_ 0
  have y_1 := HV3.out.at_ 1
  have y_2 := HV3.out.at_ 2
  have y_3 := HV3.out.at_ 3
  have y_4 := HV3.out.at_ 4
  have y_5 := HV3.out.at_ 5
  have y_6 := HV3.out.at_ 6
  have y_7 := HV3.out.at_ 7
  simp at y_0 y_1 y_2 y_3 y_4 y_5 y_6 y_7
  have lw : gw < W3.heap.size := HV3.out.here
  have hcs := (HR3.out.lsB i _ EB.out).b11
  obtain ⟨e_0, e_1, e_2, e_3, e_4, e_5, e_6, e_7, e_8, e_9, e_10⟩ := hcs
  simp only [Nat.zero_add] at e_0 e_1 e_2 e_3 e_4 e_5 e_6 e_7 e_8 e_9 e_10
  have lB : gB < W3.heap.size := HR3.out.here
  obtain ⟨m1, m2, emb⟩ := massB_is (b := (⟨x0, x1, x2, x3, x4, x5, x6, x7, x8, x9, x10, x11, x12, x13⟩ : Bd)) HDe.out
  obtain ⟨mv, emv⟩ : ∃ z, moveB (⟨x0, x1, x2, x3, x4, x5, x6, x7, x8, x9, x10, x11, x12, x13⟩ : Bd) = z := ⟨_, rfl⟩
  obtain ⟨ms, ems⟩ : ∃ z, spinB (⟨x0, x1, x2, x3, x4, x5, x6, x7, x8, x9, x10, x11, x12, x13⟩ : Bd) = z := ⟨_, rfl⟩
  have imv : I64 mv := by rw [← emv]; exact moveB_i _
  have ims : I64 ms := by rw [← ems]; exact spinB_i _
  have HSl : Hid (Sl W3 x10 x11 x13) := by
   have h := HL.out.bub U3.out (fun b hb => by have hb : b = gw := hb; rw [hb]; exact HXg.out)
   exact (h.at_.sB (⟨x0, x1, x2, x3, x4, x5, x6, x7, x8, x9, x10, x11, x12, x13⟩ : Bd) (List.mem_of_getElem? EB.out)).1
  have HM := mof_c (⟨x0, x1, x2, x3, x4, x5, x6, x7, x8, x9, x10, x11, x12, x13⟩ : Bd) (w := W3) HBi.out HPb.out HSl.out
  rw [emb, emv, ems] at HM
  have HM := hid HM
  have HMV := hid emv
  have HMS := hid ems
  clear emb emv ems
  go_wp2_with fail
  refine HM.out.mono ?_
  rintro e w4 ⟨rfl, k4⟩
  obtain ⟨V5, eV5⟩ : ∃ V, V = w4.alloc (.cells #[.int .i64 m1, .int .i64 m2, .int .i64 mv, .int .i64 ms] 121) := ⟨_, rfl⟩
  have HM5 : Hid (Has V5 w4.heap.size 121 #[.int .i64 m1, .int .i64 m2, .int .i64 mv, .int .i64 ms]) := by
   unfold Hid
   rw [eV5]
   exact has_new _ _ _
  have k5 : Below W3.heap.size W3 V5 := by
   rw [eV5]
   exact k4.alloc k4.size _
  obtain ⟨g5, eg5⟩ : ∃ g, w4.heap.size = g := ⟨_, rfl⟩
  have h5B : ¬ gB = g5 := by have := k4.size; omega
  have h5o : W3.heap.size ≤ g5 := by have := k4.size; omega
  rw [eg5] at HM5
  go_upto_region 6 with fail
  rw [← eV5]
  have HV5 := hid (HV3.out.kept k5 HV3.out.here)
  have HO5 := hid (HO3.out.kept k5 HO3.out.here)
  have HR5 := hid (RowL.bub (X := Nil0) HR3.out (Below.bub k5) (fun h => h))
  have U5 : Hid (BuB (fun g => g = gw) w V5) := U3.out.then_ (Below.bub k5)
  have h5w : w.heap.size ≤ g5 := Nat.le_trans U3.out.size h5o
  clear eV5 eg5 k5 k4 h5o e_0 e_1 e_2 e_3 e_4 e_5 e_6 e_7 e_8 e_9 e_10 y_0 y_1 y_2 y_3 y_4 y_5 y_6 y_7 lw lB HV3 HO3 HR3 U3 HM HSl
  have b_0 := HO5.out.at_ 0
  have b_1 := HO5.out.at_ 1
  have b_2 := HO5.out.at_ 2
  have b_3 := HO5.out.at_ 3
  have b_4 := HO5.out.at_ 4
  have b_5 := HO5.out.at_ 5
  have b_6 := HO5.out.at_ 6
  have b_7 := HO5.out.at_ 7
  have b_8 := HO5.out.at_ 8
  have b_9 := HO5.out.at_ 9
  have b_10 := HO5.out.at_ 10
  have b_11 := HO5.out.at_ 11
  have b_12 := HO5.out.at_ 12
  have b_13 := HO5.out.at_ 13
  have b_14 := HO5.out.at_ 14
  simp at b_0 b_1 b_2 b_3 b_4 b_5 b_6 b_7 b_8 b_9 b_10 b_11 b_12 b_13 b_14
  have l1 : g1 < V5.heap.size := HO5.out.here
  have m_0 := HM5.out.at_ 0
  have m_1 := HM5.out.at_ 1
  have m_2 := HM5.out.at_ 2
  have m_3 := HM5.out.at_ 3
  simp at m_0 m_1 m_2 m_3
  have l5 : g5 < V5.heap.size := HM5.out.here
  have hcs := (HR5.out.lsB i _ EB.out).b11
  obtain ⟨e_0, e_1, e_2, e_3, e_4, e_5, e_6, e_7, e_8, e_9, e_10⟩ := hcs
  simp only [Nat.zero_add] at e_0 e_1 e_2 e_3 e_4 e_5 e_6 e_7 e_8 e_9 e_10
  have lB : gB < V5.heap.size := HR5.out.here
  obtain ⟨p1, ep1⟩ : ∃ z, mulF vx mv = z := ⟨_, rfl⟩
  obtain ⟨p2, ep2⟩ : ∃ z, mulF vy mv = z := ⟨_, rfl⟩
  obtain ⟨q1, eq1⟩ : ∃ z, addF x3 p1 = z := ⟨_, rfl⟩
  obtain ⟨q2, eq2⟩ : ∃ z, addF x4 p2 = z := ⟨_, rfl⟩
  obtain ⟨r1, er1⟩ : ∃ z, bringF q1 (negF 17592186044416) 17592186044416 = z := ⟨_, rfl⟩
  obtain ⟨r2, er2⟩ : ∃ z, bringF q2 (negF 17592186044416) 17592186044416 = z := ⟨_, rfl⟩
  obtain ⟨p3, ep3⟩ : ∃ z, mulF sp ms = z := ⟨_, rfl⟩
  obtain ⟨q3, eq3⟩ : ∃ z, addF x6 p3 = z := ⟨_, rfl⟩
  obtain ⟨r3, er3⟩ : ∃ z, bringF q3 (-1099511627776) 1099511627776 = z := ⟨_, rfl⟩
  have ix3 : I64 x3 := HBi.out.vx
  have ix4 : I64 x4 := HBi.out.vy
  have ix6 : I64 x6 := HBi.out.sp
  have iM : I64 17592186044416 := by unfold I64; omega
  have iN : I64 1099511627776 := by unfold I64; omega
  have iK : I64 (-1099511627776) := by unfold I64; omega
  have ip1 : I64 p1 := by rw [← ep1]; exact i64_mul _ _
  have ip2 : I64 p2 := by rw [← ep2]; exact i64_mul _ _
  have ip3 : I64 p3 := by rw [← ep3]; exact i64_mul _ _
  have iq1 : I64 q1 := by rw [← eq1]; exact i64_add _ _
  have iq2 : I64 q2 := by rw [← eq2]; exact i64_add _ _
  have iq3 : I64 q3 := by rw [← eq3]; exact i64_add _ _
  have ir1 : I64 r1 := by rw [← er1]; exact i64_bring iq1 (i64_neg iM) iM
  have ir2 : I64 r2 := by rw [← er2]; exact i64_bring iq2 (i64_neg iM) iM
  have ir3 : I64 r3 := by rw [← er3]; exact i64_bring iq3 iK iN
  have HE := hid (And.intro ep1 (And.intro ep2 (And.intro eq1 (And.intro eq2 (And.intro er1 (And.intro er2 (And.intro ep3 (And.intro eq3 er3))))))))
  have HC1 := hid (fun v => vscale_is vx vy mv p1 p2 v ivx ivy imv ep1 ep2)
  have HC2 := hid (fun v => vadd_is x3 x4 p1 p2 q1 q2 v ix3 ix4 ip1 ip2 eq1 eq2)
  have HC3 := hid (fun v => vbring_is q1 q2 17592186044416 r1 r2 v iq1 iq2 iM er1 er2)
  have HC4 := hid (fun v => mul_is sp ms p3 v isp ims ep3)
  have HC5 := hid (fun v => add_is x6 p3 q3 v ix6 ip3 eq3)
  have HC6 := hid (fun v => bring_is q3 (-1099511627776) 1099511627776 r3 v iq3 iK iN er3)
  have HPu : Hid (pushB vx vy sp (⟨x0, x1, x2, x3, x4, x5, x6, x7, x8, x9, x10, x11, x12, x13⟩ : Bd) = (⟨x0, x1, x2, r1, r2, x5, r3, x7, x8, x9, x10, x11, x12, x13⟩ : Bd)) := by
   unfold Hid pushB
   rw [HMV.out, HMS.out]
   simp only []
   rw [ep1, ep2, ep3, eq1, eq2, eq3, er1, er2, er3]
  clear ep1 ep2 ep3 eq1 eq2 eq3 er1 er2 er3
  refine reg_made_tail 14 (by kernel_rfl) (by kernel_rfl) ?_
  intro Ty hT fw hf
  have z0 := Class.reads hf e_3
  have z1 := Class.reads hf e_4
  have z2 := Class.reads hf b_6
  have z3 := Class.reads hf b_7
  have z4 := Class.reads hf m_2
  simp only [List.take_succ_cons, List.take_zero, List.drop_succ_cons, List.drop_zero]
  repeat (go_big_quiet_step ((first
   | (go_at_call 85; with_reducible exact hf.made (HC1.out _))
   | (go_at_call 84; with_reducible exact hf.made (HC2.out _))
   | (go_at_call 42; with_reducible exact hf.made (HC3.out _)))))
  refine wpQuiet_nil ?_
  intro w6 h6
  have k6 := hf.here h6
  have HO6 := hid (HO5.out.stays k6 HO5.out.here)
  have HV6 := hid (HV5.out.stays k6 HV5.out.here)
  have HM6 := hid (HM5.out.stays k6 HM5.out.here)
  have HR6 := hid (HR5.out.stays k6 HR5.out.here)
  have U6 : Hid (BuB (fun g => g = gw) w w6) := U5.out.then_ (Made.bub k6)
  clear z0 z1 z2 z3 z4 hf h6 k6 e_0 e_1 e_2 e_3 e_4 e_5 e_6 e_7 e_8 e_9 e_10 b_0 b_1 b_2 b_3 b_4 b_5 b_6 b_7 b_8 b_9 b_10 b_11 b_12 b_13 b_14 m_0 m_1 m_2 m_3 lB l1 l5 HO5 HV5 HM5 HR5 U5
  have hcs := (HR6.out.lsB i _ EB.out).b11
  obtain ⟨e_0, e_1, e_2, e_3, e_4, e_5, e_6, e_7, e_8, e_9, e_10⟩ := hcs
  simp only [Nat.zero_add] at e_0 e_1 e_2 e_3 e_4 e_5 e_6 e_7 e_8 e_9 e_10
  have lB : gB < w6.heap.size := HR6.out.here
  have fB : ∀ j, w6.frozen? ⟨gB, j, none⟩ = false := HR6.out.free
  obtain ⟨W7, eW7⟩ : ∃ V, V = (w6.setCell ⟨gB, i * 11 + 3, none⟩ (.int .i64 r1)).setCell ⟨gB, i * 11 + 4, none⟩ (.int .i64 r2) := ⟨_, rfl⟩
  have hR7 : RowL encB 11 W7 gB 35 nB (B.set i (⟨x0, x1, x2, r1, r2, x5, x6, x7, x8, x9, x10, x11, x12, x13⟩ : Bd)) := by
   rw [eW7]
   refine HR6.out.part encB_len EB.out 3 [.int .i64 r1, .int .i64 r2] (by simp) (fun b v hv => ?_)
   have hb : b < 11 := by rw [← encB_len (⟨x0, x1, x2, r1, r2, x5, x6, x7, x8, x9, x10, x11, x12, x13⟩ : Bd)]; exact (List.getElem?_eq_some_iff.1 hv).1
   match b, hb with
   | 0, _ => exact hv
   | 1, _ => exact hv
   | 2, _ => exact hv
   | 3, _ => exact hv
   | 4, _ => exact hv
   | 5, _ => exact hv
   | 6, _ => exact hv
   | 7, _ => exact hv
   | 8, _ => exact hv
   | 9, _ => exact hv
   | 10, _ => exact hv
  have k7 : BuB (fun b => b = gB) w6 W7 := by rw [eW7]; exact ((BuB.rfl_ (fun b => b = gB) w6).put (p := ⟨gB, i * 11 + 3, none⟩) (.inl rfl) _).put (p := ⟨gB, i * 11 + 4, none⟩) (.inl rfl) _
  have HO7 := hid (HO6.out.bub k7 (fun h => hg1B h.symm))
  have HV7 := hid (HV6.out.bub k7 (fun h => hgwB h.symm))
  have HM7 := hid (HM6.out.bub k7 (fun h => h5B h.symm))
  have U7 : Hid (BuB (fun g => g = gw) w W7) := U6.out.then_' k7 (fun b hb => by have hb : b = gB := hb; rw [hb]; exact .inr HFr.out)
  have HR7 := hid hR7
  have EB7 : Hid ((B.set i (⟨x0, x1, x2, r1, r2, x5, x6, x7, x8, x9, x10, x11, x12, x13⟩ : Bd))[i]? = some (⟨x0, x1, x2, r1, r2, x5, x6, x7, x8, x9, x10, x11, x12, x13⟩ : Bd)) := List.getElem?_set_self (by rw [HN.out.1]; exact hin)
  go_upto_region 7 with fail
  rw [← eW7]
  clear eW7 hR7 k7 e_0 e_1 e_2 e_3 e_4 e_5 e_6 e_7 e_8 e_9 e_10 lB fB HO6 HV6 HM6 HR6 U6
  have b_0 := HO7.out.at_ 0
  have b_1 := HO7.out.at_ 1
  have b_2 := HO7.out.at_ 2
  have b_3 := HO7.out.at_ 3
  have b_4 := HO7.out.at_ 4
  have b_5 := HO7.out.at_ 5
  have b_6 := HO7.out.at_ 6
  have b_7 := HO7.out.at_ 7
  have b_8 := HO7.out.at_ 8
  have b_9 := HO7.out.at_ 9
  have b_10 := HO7.out.at_ 10
  have b_11 := HO7.out.at_ 11
  have b_12 := HO7.out.at_ 12
  have b_13 := HO7.out.at_ 13
  have b_14 := HO7.out.at_ 14
  simp at b_0 b_1 b_2 b_3 b_4 b_5 b_6 b_7 b_8 b_9 b_10 b_11 b_12 b_13 b_14
  have l1 : g1 < W7.heap.size := HO7.out.here
  have m_0 := HM7.out.at_ 0
  have m_1 := HM7.out.at_ 1
  have m_2 := HM7.out.at_ 2
  have m_3 := HM7.out.at_ 3
  simp at m_0 m_1 m_2 m_3
  have l5 : g5 < W7.heap.size := HM7.out.here
  have hcs := (HR7.out.lsB i _ EB7.out).b11
  obtain ⟨e_0, e_1, e_2, e_3, e_4, e_5, e_6, e_7, e_8, e_9, e_10⟩ := hcs
  simp only [Nat.zero_add] at e_0 e_1 e_2 e_3 e_4 e_5 e_6 e_7 e_8 e_9 e_10
  have lB : gB < W7.heap.size := HR7.out.here
  refine reg_made_tail 14 (by kernel_rfl) (by kernel_rfl) ?_
  intro Ty hT fw hf
  have z0 := Class.reads hf e_6
  have z2 := Class.reads hf b_9
  have z4 := Class.reads hf m_3
  simp only [List.take_succ_cons, List.take_zero, List.drop_succ_cons, List.drop_zero]
  repeat (go_big_quiet_step ((first
   | (go_at_call 87; with_reducible exact hf.same (HC4.out _))
   | (go_at_call 86; with_reducible exact hf.same (HC5.out _))
   | (go_at_call 43; with_reducible exact hf.same (HC6.out _)))))
  refine wpQuiet_nil ?_
  intro w8 h8
  have k8 := hf.here h8
  have HV8 := hid (HV7.out.stays k8 HV7.out.here)
  have HR8 := hid (HR7.out.stays k8 HR7.out.here)
  have U8 : Hid (BuB (fun g => g = gw) w w8) := U7.out.then_ (Made.bub k8)
  clear z0 z2 z4 hf h8 k8 e_0 e_1 e_2 e_3 e_4 e_5 e_6 e_7 e_8 e_9 e_10 b_0 b_1 b_2 b_3 b_4 b_5 b_6 b_7 b_8 b_9 b_10 b_11 b_12 b_13 b_14 m_0 m_1 m_2 m_3 lB l1 l5 HO7 HV7 HM7 HR7 U7
  have hcs := (HR8.out.lsB i _ EB7.out).b11
  obtain ⟨e_0, e_1, e_2, e_3, e_4, e_5, e_6, e_7, e_8, e_9, e_10⟩ := hcs
  simp only [Nat.zero_add] at e_0 e_1 e_2 e_3 e_4 e_5 e_6 e_7 e_8 e_9 e_10
  have lB : gB < w8.heap.size := HR8.out.here
  have fB : ∀ j, w8.frozen? ⟨gB, j, none⟩ = false := HR8.out.free
  obtain ⟨W9, eW9⟩ : ∃ V, V = w8.setCell ⟨gB, i * 11 + 6, none⟩ (.int .i64 r3) := ⟨_, rfl⟩
  have hR9 : RowL encB 11 W9 gB 35 nB ((B.set i (⟨x0, x1, x2, r1, r2, x5, x6, x7, x8, x9, x10, x11, x12, x13⟩ : Bd)).set i (⟨x0, x1, x2, r1, r2, x5, r3, x7, x8, x9, x10, x11, x12, x13⟩ : Bd)) := by
   rw [eW9]
   refine HR8.out.part encB_len EB7.out 6 [.int .i64 r3] (by simp) (fun b v hv => ?_)
   have hb : b < 11 := by rw [← encB_len (⟨x0, x1, x2, r1, r2, x5, r3, x7, x8, x9, x10, x11, x12, x13⟩ : Bd)]; exact (List.getElem?_eq_some_iff.1 hv).1
   match b, hb with
   | 0, _ => exact hv
   | 1, _ => exact hv
   | 2, _ => exact hv
   | 3, _ => exact hv
   | 4, _ => exact hv
   | 5, _ => exact hv
   | 6, _ => exact hv
   | 7, _ => exact hv
   | 8, _ => exact hv
   | 9, _ => exact hv
   | 10, _ => exact hv
  have k9 : BuB (fun b => b = gB) w8 W9 := by rw [eW9]; exact (BuB.rfl_ (fun b => b = gB) w8).put (p := ⟨gB, i * 11 + 6, none⟩) (.inl rfl) _
  have HV9 := hid (HV8.out.bub k9 (fun h => hgwB h.symm))
  have U9 : Hid (BuB (fun g => g = gw) w W9) := U8.out.then_' k9 (fun b hb => by have hb : b = gB := hb; rw [hb]; exact .inr HFr.out)
  have HR9 := hid hR9
  have HEW := hid eW9
  clear eW9 hR9 k9
  go_wp2_with fail
  rw [← HEW.out]
  first | refine void_end rfl rfl ?_ | refine void_ret rfl rfl ?_
  have hLf := HL.out.bub U9.out (fun b hb => by have hb : b = gw := hb; rw [hb]; exact HXg.out)
  have hset : (B.set i (⟨x0, x1, x2, r1, r2, x5, x6, x7, x8, x9, x10, x11, x12, x13⟩ : Bd)).set i (⟨x0, x1, x2, r1, r2, x5, r3, x7, x8, x9, x10, x11, x12, x13⟩ : Bd) = B.set i (pushB vx vy sp (⟨x0, x1, x2, x3, x4, x5, x6, x7, x8, x9, x10, x11, x12, x13⟩ : Bd)) := by rw [List.set_set, HPu.out]
  have hRf := HR9.out
  rw [hset] at hRf
  have hlen : (B.set i (pushB vx vy sp (⟨x0, x1, x2, x3, x4, x5, x6, x7, x8, x9, x10, x11, x12, x13⟩ : Bd))).length = nB := by rw [List.length_set]; exact HN.out.1
  have hXB : ¬ X gB := fun hx => by have := HXw.out gB hx; have := HFr.out; omega
  have hmem : ∀ y, y ∈ B.set i (pushB vx vy sp (⟨x0, x1, x2, x3, x4, x5, x6, x7, x8, x9, x10, x11, x12, x13⟩ : Bd)) → ∃ z ∈ B, y.ao = z.ao ∧ y.n = z.n ∧ y.c = z.c ∧ y.f = z.f ∧ (BdI z → BdI y) := fun y hy => by
   rcases List.mem_or_eq_of_mem_set hy with hy | hy
   ·exact ⟨y, hy, rfl, rfl, rfl, rfl, fun h => h⟩
   ·refine ⟨(⟨x0, x1, x2, x3, x4, x5, x6, x7, x8, x9, x10, x11, x12, x13⟩ : Bd), List.mem_of_getElem? EB.out, ?_⟩
    rw [hy, HPu.out]
    exact ⟨rfl, rfl, rfl, rfl, fun h => ⟨h.id, h.x, h.y, ir1, ir2, h.an, ir3, h.de, h.k, h.r, h.f⟩⟩
  refine ⟨rfl, ⟨nb, nj, B.set i (pushB vx vy sp (⟨x0, x1, x2, x3, x4, x5, x6, x7, x8, x9, x10, x11, x12, x13⟩ : Bd)), J, C⟩, .inr ⟨i, (⟨x0, x1, x2, x3, x4, x5, x6, x7, x8, x9, x10, x11, x12, x13⟩ : Bd), EB.out, EI.out, HDe.out, rfl⟩, ⟨_, oj, oc, c', cj, cc, ?_, ⟨⟨hRf.lsT, hLf.at_.lJ, hLf.at_.lC, fun y hy => ?_, hLf.at_.iJ, hLf.at_.iC⟩, ?_, hLf.okJ, hLf.okC, fun _ b o s e => ?_, hLf.offJ, hLf.offC, fun y hy hn => ?_, fun y hy => ?_⟩⟩, U9.out⟩
  ·show Has W9 gw 42 #[.int .i64 tk, .int .i64 nb, .int .i64 nj, .int .i64 gx, .int .i64 gy, .slice _ (B.set i (pushB vx vy sp (⟨x0, x1, x2, x3, x4, x5, x6, x7, x8, x9, x10, x11, x12, x13⟩ : Bd))).length c', .slice oj J.length cj, .slice oc C.length cc]
   rw [hlen, HN.out.2.1, HN.out.2.2]
   exact HV9.out
  ·obtain ⟨z, hz, h1, h2, h3, h4, h5⟩ := hmem y hy
   obtain ⟨s1, s2⟩ := hLf.at_.sB z hz
   rw [h1, h2, h4]
   exact ⟨s1, h5 s2⟩
  ·show SlOk _ (B.set i (pushB vx vy sp (⟨x0, x1, x2, x3, x4, x5, x6, x7, x8, x9, x10, x11, x12, x13⟩ : Bd))).length c'
   rw [hlen]
   exact ⟨HNc.out.1, HNc.out.2, .inr ⟨_, _, rfl⟩⟩
  ·cases e
   exact hXB
  ·obtain ⟨z, hz, h1, h2, h3, h4, h5⟩ := hmem y hy
   rw [h1]
   exact hLf.offP z hz (by rw [← h2]; exact hn)
  ·obtain ⟨z, hz, h1, h2, h3, h4, h5⟩ := hmem y hy
   rw [h1, h2, h3]
   exact hLf.okP z hz
theorem exec_p {X : Nat → Prop} {w : World} {gw : Nat} {G : PG} (o : Or) (hV : GV X w gw G) (hG : GOk G) (hXg : X gw) (hXw : ∀ b, X b → b < w.heap.size) (hoi : OrI o) (hoP : OrderP o) (hos : Sl w o.ao o.n o.f) (hok : (o.ao = none ∧ o.n = 0 ∧ o.c = 0) ∨ ∃ a, o.ao = some a) (hmC : G.P.C.length ≤ 1073741824) :
  Calls Tryz.prog 30 #[.pointer (some ⟨gw, 0, none⟩), orV o] w fun e v => ∃ er G', e = .returned (.int .i64 er) ∧ ExecP o G er G' ∧ GV X v gw G' ∧ BuB (fun g => g = gw) w v :=
 exec_c o hV hG hXg hXw hoi hoP hos hok hmC fun _ v k => opush_c G.tk G.gx G.gy G.P.nb G.P.nj G.P.B G.P.J G.P.C o.kd o.id o.a o.b o.x o.y o.vx o.vy o.an o.sp o.de o.ln o.k o.r o.ao o.n o.c (WVar.kept hV k) hG hXg (fun b hb => Nat.lt_of_lt_of_le (hXw b hb) k.1.size) hoi.vx hoi.vy hoi.sp
end Go.Proofs.YtjecadafjnbijaaGreat.Fx
/- Equal worlds go the same way, plain. -/
namespace Go.Proofs.YtjecadafjnbijaaGreat.Fx
open Go.ChangeShapes Go.WideShapes Go.ChangeAt Go.RowKit
set_option linter.unusedVariables false
theorem eqb_nil (B' : List Bd) (h : EqBs [] B') : B' = [] := List.eq_nil_of_length_eq_zero h.1.symm
theorem eqb_cons {b b' : Bd} {B B' : List Bd} : EqBs (b :: B) (b' :: B') ↔ EqB b b' ∧ EqBs B B' := by
 constructor
 ·intro h
  refine ⟨h.2 0 b b' rfl rfl, by simpa using h.1, fun i x y hx hy => h.2 (i + 1) x y (by simpa using hx) (by simpa using hy)⟩
 ·rintro ⟨h0, h1, h2⟩
  refine ⟨by simpa using h1, fun i x y hx hy => ?_⟩
  cases i with
  | zero => simp at hx hy; subst hx; subst hy; exact h0
  | succ i => exact h2 i x y (by simpa using hx) (by simpa using hy)
theorem EqBs.ids {B B' : List Bd} (h : EqBs B B') : Fx.ids B = Fx.ids B' := by
 induction B generalizing B' with
 | nil => rw [eqb_nil _ h]
 | cons b B ih =>
  cases B' with
  | nil => exact absurd h.1 (by simp)
  | cons b' B' =>
   obtain ⟨h0, h1⟩ := eqb_cons.1 h
   show b.id :: Fx.ids B = b'.id :: Fx.ids B'
   rw [ih h1, h0.1]
def EqG (G H : PG) : Prop := G.tk = H.tk ∧ G.gx = H.gx ∧ G.gy = H.gy ∧ G.P.nb = H.P.nb ∧ G.P.nj = H.P.nj ∧ EqBs G.P.B H.P.B ∧ G.P.J = H.P.J ∧ G.P.C = H.P.C
theorem right_same {K R : Int} {n : Nat} {f g : Cs} (h : RightP K R n f) (e : ∀ i, i < n → f i = g i) : RightP K R n g := by
 rcases h with h | ⟨h1, h2, h3, h4, h5, h6⟩
 ·exact .inl h
 ·refine .inr ⟨h1, h2, h3, h4, fun i hi => by rw [← e i hi]; exact h5 i hi, fun i hi j hj a b => ?_⟩
  have h7 := h6 i hi j hj a b
  unfold crossF at h7 ⊢
  rwa [e i hi, e j hj, e ((i + 1) % n) (Nat.mod_lt _ (by omega))] at h7
theorem body_same {b b' : Bd} (h : EqB b { b' with id := b.id }) (k : BodyP b) : BodyP b' := by
 obtain ⟨_, ⟨h2, h2'⟩, ⟨h3, h3'⟩, h4, h5, h6, h7, h8, h9, h10⟩ := h
 have h2 : b.x = b'.x := h2; have h2' : b.y = b'.y := h2'; have h3 : b.vx = b'.vx := h3; have h3' : b.vy = b'.vy := h3'
 have h4 : b.an = b'.an := h4; have h5 : b.sp = b'.sp := h5; have h6 : b.de = b'.de := h6; have h7 : b.k = b'.k := h7; have h8 : b.r = b'.r := h8; have h9 : b.n = b'.n := h9
 refine ⟨?_, by rw [← h2]; exact k.x, by rw [← h2']; exact k.y, by rw [← h3]; exact k.vx, by rw [← h3']; exact k.vy, by rw [← h5]; exact k.sp, by rw [← h4]; exact k.an, by rw [← h6]; exact k.de, fun h0 => by rw [← h3, ← h3', ← h5]; exact k.still (h6.trans h0)⟩
 have hf : ∀ i, i < b'.n → b.f i = b'.f i := fun i hi => h10 i (by omega)
 rw [← h7, ← h8, ← h9]
 exact right_same k.shape (fun i hi => hf i (by omega))
def pushOne (id vx vy sp : Int) (b : Bd) : Bd := if b.id = id ∧ b.de ≠ 0 then pushB vx vy sp b else b
theorem exec1_of {o : Or} {G G' : PG} {er : Int} (hk : o.kd = 1) (h : ExecP o G er G') : ∃ n P', AddBP (bodyOr o) G.P n er P' ∧ G' = ⟨G.tk, G.gx, G.gy, P'⟩ := by
 rcases h with ⟨_, h⟩ | ⟨h, _⟩ | ⟨h, _⟩ | ⟨h, _⟩ | ⟨h, _⟩ | ⟨h, _⟩
 ·exact h
 all_goals omega
theorem exec2_of {o : Or} {G G' : PG} {er : Int} (hk : o.kd = 2) (h : ExecP o G er G') : ∃ gone P', RemBP o.id G.P gone P' ∧ G' = ⟨G.tk, G.gx, G.gy, P'⟩ := by
 rcases h with ⟨h, _⟩ | ⟨_, _, h⟩ | ⟨h, _⟩ | ⟨h, _⟩ | ⟨h, _⟩ | ⟨h, _⟩
 ·omega
 ·exact h
 all_goals omega
def curB (id vx vy sp : Int) (B : List Bd) (k : Nat) : List Bd := (B.take k).map (pushOne id vx vy sp) ++ B.drop k
theorem exec_C {o : Or} {G G' : PG} {er : Int} (h : ExecP o G er G') : G'.P.C.length ≤ G.P.C.length := by
 rcases h with ⟨_, n, P', k, rfl⟩ | ⟨_, _, g, P', k, rfl⟩ | ⟨_, n, P', k, rfl⟩ | ⟨_, _, g, P', k, rfl⟩ | ⟨_, _, P', k, rfl⟩ | ⟨_, _, rfl⟩
 ·rcases k with ⟨_, _, _, rfl⟩ | ⟨_, _, _, _, rfl⟩ | ⟨_, _, _, _, _, ao, c, rfl⟩ <;> exact Nat.le_refl _
 ·rcases k with ⟨_, _, rfl⟩ | ⟨_, _, rfl⟩
  ·exact Nat.le_refl _
  ·exact List.length_filter_le _ _
 ·rcases k with ⟨_, _, _, rfl⟩ | ⟨_, _, _, _, rfl⟩ | ⟨_, _, _, _, _, rfl⟩ | ⟨_, _, _, _, _, _, rfl⟩ <;> exact Nat.le_refl _
 ·rcases k with ⟨_, _, rfl⟩ | ⟨_, _, rfl⟩ <;> exact Nat.le_refl _
 ·rcases k with ⟨_, rfl⟩ | ⟨i, b, _, _, _, rfl⟩ <;> exact Nat.le_refl _
 ·exact Nat.le_refl _
end Go.Proofs.YtjecadafjnbijaaGreat.Fx
/- Contacts that are added one by one. -/
namespace Go.Proofs.YtjecadafjnbijaaGreat.Fx
open Go.ChangeShapes Go.WideShapes Go.ChangeAt Go.RowKit
set_option linter.unusedVariables false
def GoodC (ys : List Ct) : Prop := (∀ y ∈ ys, y.a < y.b ∧ 0 ≤ y.n) ∧ ys.Pairwise LtC
def PlainC (B : List Bd) (ys : List Ct) : Prop := ∀ y ∈ ys, CtI y ∧ 0 ≤ y.key ∧ y.a ∈ ids B ∧ y.b ∈ ids B
theorem own_from {w : World} {base n size g : Nat} {t : TypeId} {x : Value} {xs : List Value} (h : w.ownsRow base t size x n xs) (e : some g = x.ownBlock) : base ≤ g := by
 rcases h.2 with ⟨hv, _⟩ | ⟨g', cap, cur, hv, hb, _⟩
 ·rw [hv] at e; cases e
 ·rw [hv] at e; cases e; exact hb
theorem own_SlOk {w : World} {base n c size : Nat} {t : TypeId} {ao : Option Addr} {xs : List Value} (h : w.ownsRow base t size (.slice ao n c) n xs) : SlOk ao n c := by
 rcases h.2 with ⟨hv, e⟩ | ⟨g', cap, cur, hv, hb, hh, hc, hm, _⟩
 ·injection hv with h1 h2 h3
  rw [h1, h2, h3]
  exact ⟨Nat.le_refl _, by unfold maxLen; omega, .inl ⟨rfl, rfl, rfl⟩⟩
 ·injection hv with h1 h2 h3
  rw [h1, h3]
  exact ⟨hc, hm, .inr ⟨_, _, rfl⟩⟩
end Go.Proofs.YtjecadafjnbijaaGreat.Fx
/- Slices of deeds, contacts and bytes, and bodies, that came in. -/
namespace Go.Proofs.YtjecadafjnbijaaGreat.Fx
open Go.ChangeShapes Go.WideShapes Go.ChangeAt Go.RowKit Go.Deep
set_option linter.unusedVariables false
instance : Inhabited De := ⟨⟨0, 0, 0, 0, 0, 0, 0, 0, 0, 0, 0, 0, 0, 0, 0, 0, 0, 0, 0, 0, 0, 0, 0, 0, 0, 0, 0, 0, 0, none, 0, 0, fun _ => (0, 0)⟩⟩
instance : Inhabited Ct := ⟨⟨0, 0, 0, 0, 0⟩⟩
def DesIn (w : World) (ao : Option Addr) (n c : Nat) (l : List De) : Prop := DesAt w ao l ∧ l.length = n ∧ n ≤ c ∧ c ≤ maxLen ∧ ((ao = none ∧ n = 0 ∧ c = 0) ∨ ∃ a, ao = some a)
def U8In (w : World) (ao : Option Addr) (n c : Nat) (f : Nat → Int) : Prop := U8At w ao n f ∧ n ≤ c ∧ c ≤ maxLen
def CtsIn (w : World) (ao : Option Addr) (n c : Nat) (l : List Ct) : Prop := LsT encC 5 w ao l ∧ l.length = n ∧ n ≤ c ∧ c ≤ maxLen ∧ (∀ x ∈ l, CtI x) ∧ ((ao = none ∧ n = 0 ∧ c = 0) ∨ ∃ a, ao = some a)
section
variable {H : Type} {enc : TypeId × Value → H} {w : World} {base : Nat} {spare : Nat → Bool} {held : Bool}
end
end Go.Proofs.YtjecadafjnbijaaGreat.Fx
/- WorldCopies. -/
namespace Go.Proofs.YtjecadafjnbijaaGreat.Fx
open Go.ChangeShapes Go.WideShapes Go.ChangeAt Go.RowKit
set_option linter.unusedVariables false
theorem Has.put8 {w : World} {g : Nat} {t : TypeId} {c0 c1 c2 c3 c4 c5 c6 c7 : Value} (h : Has w g t #[c0, c1, c2, c3, c4, c5, c6, c7]) (v0 v1 v2 v3 v4 v5 v6 v7 : Value) :
  Has ((((((((w.setCell ⟨g, 0, none⟩ v0).setCell ⟨g, 1, none⟩ v1).setCell ⟨g, 2, none⟩ v2).setCell ⟨g, 3, none⟩ v3).setCell ⟨g, 4, none⟩ v4).setCell ⟨g, 5, none⟩ v5).setCell ⟨g, 6, none⟩ v6).setCell ⟨g, 7, none⟩ v7) g t #[v0, v1, v2, v3, v4, v5, v6, v7] := by
 have h1 : Has (w.setCell ⟨g, 0, none⟩ v0) g t #[v0, c1, c2, c3, c4, c5, c6, c7] := h.put 0 v0
 have h2 : Has ((w.setCell ⟨g, 0, none⟩ v0).setCell ⟨g, 1, none⟩ v1) g t #[v0, v1, c2, c3, c4, c5, c6, c7] := h1.put 1 v1
 have h3 : Has (((w.setCell ⟨g, 0, none⟩ v0).setCell ⟨g, 1, none⟩ v1).setCell ⟨g, 2, none⟩ v2) g t #[v0, v1, v2, c3, c4, c5, c6, c7] := h2.put 2 v2
 have h4 : Has ((((w.setCell ⟨g, 0, none⟩ v0).setCell ⟨g, 1, none⟩ v1).setCell ⟨g, 2, none⟩ v2).setCell ⟨g, 3, none⟩ v3) g t #[v0, v1, v2, v3, c4, c5, c6, c7] := h3.put 3 v3
 have h5 : Has (((((w.setCell ⟨g, 0, none⟩ v0).setCell ⟨g, 1, none⟩ v1).setCell ⟨g, 2, none⟩ v2).setCell ⟨g, 3, none⟩ v3).setCell ⟨g, 4, none⟩ v4) g t #[v0, v1, v2, v3, v4, c5, c6, c7] := h4.put 4 v4
 have h6 : Has ((((((w.setCell ⟨g, 0, none⟩ v0).setCell ⟨g, 1, none⟩ v1).setCell ⟨g, 2, none⟩ v2).setCell ⟨g, 3, none⟩ v3).setCell ⟨g, 4, none⟩ v4).setCell ⟨g, 5, none⟩ v5) g t #[v0, v1, v2, v3, v4, v5, c6, c7] := h5.put 5 v5
 have h7 : Has (((((((w.setCell ⟨g, 0, none⟩ v0).setCell ⟨g, 1, none⟩ v1).setCell ⟨g, 2, none⟩ v2).setCell ⟨g, 3, none⟩ v3).setCell ⟨g, 4, none⟩ v4).setCell ⟨g, 5, none⟩ v5).setCell ⟨g, 6, none⟩ v6) g t #[v0, v1, v2, v3, v4, v5, v6, c7] := h6.put 6 v6
 exact h7.put 7 v7
theorem But.put8 {X : Nat → Prop} {a w : World} {g : Nat} (h : But X a w) (hg : X g ∨ a.heap.size ≤ g) (v0 v1 v2 v3 v4 v5 v6 v7 : Value) :
  But X a ((((((((w.setCell ⟨g, 0, none⟩ v0).setCell ⟨g, 1, none⟩ v1).setCell ⟨g, 2, none⟩ v2).setCell ⟨g, 3, none⟩ v3).setCell ⟨g, 4, none⟩ v4).setCell ⟨g, 5, none⟩ v5).setCell ⟨g, 6, none⟩ v6).setCell ⟨g, 7, none⟩ v7) :=
 (((((((h.put (p := ⟨g, 0, none⟩) hg v0).put (p := ⟨g, 1, none⟩) hg v1).put (p := ⟨g, 2, none⟩) hg v2).put (p := ⟨g, 3, none⟩) hg v3).put (p := ⟨g, 4, none⟩) hg v4).put (p := ⟨g, 5, none⟩) hg v5).put (p := ⟨g, 6, none⟩) hg v6).put (p := ⟨g, 7, none⟩) hg v7
def z8 : Array Value := #[.int .i64 0, .int .i64 0, .int .i64 0, .int .i64 0, .int .i64 0, .slice none 0 0, .slice none 0 0, .slice none 0 0]
def alC (n : Nat) (P : PW) (i : Nat) (v : World) (g : Nat) (e : MI.Ex) : Prop := (i < n → CopyV P v g e) ∧ (n ≤ i → Has v g 42 #[.int .i64 0, .int .i64 0, .int .i64 0, .int .i64 0, .int .i64 0, .slice none 0 0, .slice none 0 0, .slice none 0 0] ∧ e.hi = g + 1)
def valC (n i g : Nat) (e : MI.Ex) : Value := if i < n then e.v else .pointer (some ⟨g, 0, none⟩)
end Go.Proofs.YtjecadafjnbijaaGreat.Fx