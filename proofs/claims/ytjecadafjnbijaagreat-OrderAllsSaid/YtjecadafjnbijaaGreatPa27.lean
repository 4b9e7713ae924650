/- OtB OtD OtJ -/
import Derived.Test.YtjecadafjnbijaaGreatPa17
import Derived.Test.YtjecadafjnbijaaGreatPa23
import Derived.Test.YtjecadafjnbijaaGreatPa25
import Derived.Test.YtjecadafjnbijaaGreatPa26
import Derived.Maps.AppendAt
set_option maxRecDepth 100000
set_option maxHeartbeats 64000000
/- order.execute of any order, order.Do. -/
namespace Go.Proofs.YtjecadafjnbijaaGreat.Fx
open Go.ChangeShapes Go.WideShapes Go.ChangeAt Go.RowKit
set_option linter.unusedVariables false
theorem addB_g {X : Nat → Prop} {w : World} {gw : Nat} {G : PG} (b : Bd) (hV : GV X w gw G) (hG : GOk G) (hXg : X gw) (hXw : ∀ b, X b → b < w.heap.size) (hs : Sl w b.ao b.n b.f) (hi : BdI b) (ho : (b.ao = none ∧ b.n = 0 ∧ b.c = 0) ∨ ∃ a, b.ao = some a) :
  Calls Tryz.prog 39 #[.pointer (some ⟨gw, 0, none⟩), bdV b] w fun e v => ∃ n er P', e = .returned (.tuple #[.int .i64 n, .int .i64 er]) ∧ AddBP b G.P n er P' ∧ GV X v gw ⟨G.tk, G.gx, G.gy, P'⟩ ∧ But (fun g => g = gw) w v := by
 have hP := hG.p
 obtain ⟨h1, h2, h3, h4⟩ := nb_I hP
 refine (addBody_c b hV hXg hXw hs hi ho h1 h2).mono ?_
 rintro e v (⟨a, rfl, k⟩ | ⟨a, b', rfl, k⟩ | ⟨a, b', c', rfl, k, ao, c, hv⟩)
 ·exact ⟨0, 2, G.P, rfl, .inl ⟨a, rfl, rfl, rfl⟩, WVar.kept hV k, Made.but k⟩
 ·exact ⟨0, 3, G.P, rfl, .inr (.inl ⟨a, b', rfl, rfl, rfl⟩), WVar.kept hV k, Made.but k⟩
 ·exact ⟨G.P.nb, 0, ⟨G.P.nb + 1, G.P.nj, G.P.B ++ [newB G.P.nb b ao c], G.P.J, G.P.C⟩, rfl, .inr (.inr ⟨a, b', c', rfl, rfl, ao, c, rfl⟩), hv, k⟩
theorem addJ_g {X : Nat → Prop} {w : World} {gw : Nat} {G : PG} (j : Jt) (hV : GV X w gw G) (hG : GOk G) (hXg : X gw) (hXw : ∀ b, X b → b < w.heap.size) (hi : JtI j) :
  Calls Tryz.prog 35 #[.pointer (some ⟨gw, 0, none⟩), jtV j] w fun e v => ∃ n er P', e = .returned (.tuple #[.int .i64 n, .int .i64 er]) ∧ AddJP j G.P n er P' ∧ GV X v gw ⟨G.tk, G.gx, G.gy, P'⟩ ∧ But (fun g => g = gw) w v := by
 have hP := hG.p
 obtain ⟨h1, h2, h3, h4⟩ := nb_I hP
 refine (addJoint_c j hV hXg hXw hi h3 h4 (by have := hP.hB.len; omega) hP.hB.num.2.2.1).mono ?_
 rintro e v (⟨a, rfl, k⟩ | ⟨a, b', rfl, k⟩ | ⟨a, b', c', rfl, k⟩ | ⟨a, b', c', d, rfl, k, hv⟩)
 ·exact ⟨0, 2, G.P, rfl, .inl ⟨a, rfl, rfl, rfl⟩, WVar.kept hV k, Made.but k⟩
 ·exact ⟨0, 4, G.P, rfl, .inr (.inl ⟨a, b', rfl, rfl, rfl⟩), WVar.kept hV k, Made.but k⟩
 ·exact ⟨0, 3, G.P, rfl, .inr (.inr (.inl ⟨a, b', c', rfl, rfl, rfl⟩)), WVar.kept hV k, Made.but k⟩
 ·exact ⟨G.P.nj, 0, ⟨G.P.nb, G.P.nj + 1, G.P.B, G.P.J ++ [newJ G.P.nj j], G.P.C⟩, rfl, .inr (.inr (.inr ⟨a, b', c', d, rfl, rfl, rfl⟩)), hv, k⟩
theorem remB_g {X : Nat → Prop} {w : World} {gw : Nat} {G : PG} (id : Int) (hV : GV X w gw G) (hG : GOk G) (hXg : X gw) (hXw : ∀ b, X b → b < w.heap.size) (hmC : G.P.C.length ≤ 1073741824) :
  Calls Tryz.prog 37 #[.pointer (some ⟨gw, 0, none⟩), .int .i64 id] w fun e v => ∃ gone P', e = .returned (.bool gone) ∧ RemBP id G.P gone P' ∧ GV X v gw ⟨G.tk, G.gx, G.gy, P'⟩ ∧ But (fun g => g = gw) w v := by
 have hP := hG.p
 obtain ⟨h1, h2, h3, h4⟩ := nb_I hP
 refine (removeBody_c id hV hXg hXw (by have := hP.hB.len; omega) (by have := hP.hJ.len; omega) hmC hP.hB.num.2.2.1).mono ?_
 rintro e v (⟨a, rfl, k⟩ | ⟨a, rfl, k, hv⟩)
 ·exact ⟨false, G.P, rfl, .inl ⟨a, rfl, rfl⟩, WVar.kept hV k, Made.but k⟩
 ·exact ⟨true, remB G.P id, rfl, .inr ⟨a, rfl, rfl⟩, hv, k⟩
theorem remJ_g {X : Nat → Prop} {w : World} {gw : Nat} {G : PG} (id : Int) (hV : GV X w gw G) (hG : GOk G) (hXg : X gw) (hXw : ∀ b, X b → b < w.heap.size)  :
  Calls Tryz.prog 38 #[.pointer (some ⟨gw, 0, none⟩), .int .i64 id] w fun e v => ∃ gone P', e = .returned (.bool gone) ∧ RemJP id G.P gone P' ∧ GV X v gw ⟨G.tk, G.gx, G.gy, P'⟩ ∧ But (fun g => g = gw) w v := by
 have hP := hG.p
 obtain ⟨h1, h2, h3, h4⟩ := nb_I hP
 refine (removeJoint_c id hV hXg hXw (by have := hP.hJ.len; omega) hP.hJ.num.2.2.1).mono ?_
 rintro e v (⟨a, rfl, k⟩ | ⟨a, rfl, k, hv⟩)
 ·exact ⟨false, G.P, rfl, .inl ⟨a, rfl, rfl⟩, WVar.kept hV k, Made.but k⟩
 ·exact ⟨true, remJ G.P id, rfl, .inr ⟨a, rfl, rfl⟩, hv, k⟩
theorem exec5 (id a b x y vx vy an sp de ln k r : Int) (ao : Option Addr) (n c : Nat) (w : World) (gw : Nat) (lgw : gw < w.heap.size) (R : World → Prop) (HA : ∀ v, Made w.heap.size w v → Calls Tryz.prog 51 #[.pointer (some ⟨gw, 0, none⟩), .agg #[.int .i64 5, .int .i64 id, .int .i64 a, .int .i64 b, .int .i64 x, .int .i64 y, .int .i64 vx, .int .i64 vy, .int .i64 an, .int .i64 sp, .int .i64 de, .int .i64 ln, .int .i64 k, .int .i64 r, .slice ao n c]] v fun e u => e = .returned (.tuple #[]) ∧ R u) :
  Calls Tryz.prog 30 #[.pointer (some ⟨gw, 0, none⟩), .agg #[.int .i64 5, .int .i64 id, .int .i64 a, .int .i64 b, .int .i64 x, .int .i64 y, .int .i64 vx, .int .i64 vy, .int .i64 an, .int .i64 sp, .int .i64 de, .int .i64 ln, .int .i64 k, .int .i64 r, .slice ao n c]] w fun e v => e = .returned (.int .i64 0) ∧ R v := by
 have HA := hid HA
 obtain ⟨W, eW⟩ : ∃ W, W = w.alloc (.cells #[.int .i64 5, .int .i64 id, .int .i64 a, .int .i64 b, .int .i64 x, .int .i64 y, .int .i64 vx, .int .i64 vy, .int .i64 an, .int .i64 sp, .int .i64 de, .int .i64 ln, .int .i64 k, .int .i64 r, .slice ao n c] 49) := ⟨_, rfl⟩
 have KW : Hid (Made w.heap.size w W) := by unfold Hid; rw [eW]; exact (Made.rfl_ _ _).cells (Nat.le_refl _) _ _
 have HB : Hid (Has W w.heap.size 49 #[.int .i64 5, .int .i64 id, .int .i64 a, .int .i64 b, .int .i64 x, .int .i64 y, .int .i64 vx, .int .i64 vy, .int .i64 an, .int .i64 sp, .int .i64 de, .int .i64 ln, .int .i64 k, .int .i64 r, .slice ao n c]) := by unfold Hid; rw [eW]; exact has_new _ _ _
 obtain ⟨g1, eg1⟩ : ∃ g, w.heap.size = g := ⟨_, rfl⟩
 have HG1 := hid eg1
 rw [eg1] at HB
 have b_0 := HB.out.at_ 0
 have b_1 := HB.out.at_ 1
 have b_2 := HB.out.at_ 2
 have b_3 := HB.out.at_ 3
 have b_4 := HB.out.at_ 4
 have b_5 := HB.out.at_ 5
 have b_6 := HB.out.at_ 6
 have b_7 := HB.out.at_ 7
 have b_8 := HB.out.at_ 8
 have b_9 := HB.out.at_ 9
 have b_10 := HB.out.at_ 10
 have b_11 := HB.out.at_ 11
 have b_12 := HB.out.at_ 12
 have b_13 := HB.out.at_ 13
 have b_14 := HB.out.at_ 14
 simp at b_0 b_1 b_2 b_3 b_4 b_5 b_6 b_7 b_8 b_9 b_10 b_11 b_12 b_13 b_14
 have l1 : g1 < W.heap.size := HB.out.here
 go_enter Tryz.func30, Tryz.ntmps30
 go_upto_region 1 with fail
 rw [← eW]
 clear eW
 try rw [eg1]
 clear eg1
 have lw : gw < W.heap.size := Nat.lt_of_lt_of_le lgw KW.out.1.size
 go_wp2_with fail
 refine (HA.out _ KW.out).mono ?_
 rintro e w1 ⟨rfl, hR⟩
 have HR := hid hR
 clear hR b_0 b_1 b_2 b_3 b_4 b_5 b_6 b_7 b_8 b_9 b_10 b_11 b_12 b_13 b_14 l1 lw
 go_wp2_with fail
 go_ret
 exact ⟨by first | rfl | trivial, HR.out⟩
theorem exec_c {X : Nat → Prop} {w : World} {gw : Nat} {G : PG} (o : Or) (hV : GV X w gw G) (hG : GOk G) (hXg : X gw) (hXw : ∀ b, X b → b < w.heap.size) (hoi : OrI o) (hoP : OrderP o) (hos : Sl w o.ao o.n o.f) (hok : (o.ao = none ∧ o.n = 0 ∧ o.c = 0) ∨ ∃ a, o.ao = some a) (hmC : G.P.C.length ≤ 1073741824)
  (HP : o.kd = 5 → ∀ v, Made w.heap.size w v → Calls Tryz.prog 51 #[.pointer (some ⟨gw, 0, none⟩), orV o] v fun e u => e = .returned (.tuple #[]) ∧ ∃ P', PushP o.id o.vx o.vy o.sp G.P P' ∧ GV X u gw ⟨G.tk, G.gx, G.gy, P'⟩ ∧ BuB (fun g => g = gw) v u) :
  Calls Tryz.prog 30 #[.pointer (some ⟨gw, 0, none⟩), orV o] w fun e v => ∃ er G', e = .returned (.int .i64 er) ∧ ExecP o G er G' ∧ GV X v gw G' ∧ BuB (fun g => g = gw) w v := by
 have lgw : gw < w.heap.size := WVar.here hV
 have lX : ∀ v, Made w.heap.size w v → ∀ b, X b → b < v.heap.size := fun v k b hb => Nat.lt_of_lt_of_le (hXw b hb) k.1.size
 have hk : o.kd = 1 ∨ o.kd = 2 ∨ o.kd = 3 ∨ o.kd = 4 ∨ o.kd = 5 ∨ o.kd = 6 := by
  rcases hoP with h | h | h | h | h
  ·exact .inl h.1
  ·have := h.1; omega
  ·have := h.1; omega
  ·have := h.1; omega
  ·have := h.1; omega
 obtain ⟨kd, id, a, b, x, y, vx, vy, an, sp, de, ln, k, r, ao, n, c, f⟩ := o
 have hk : kd = 1 ∨ kd = 2 ∨ kd = 3 ∨ kd = 4 ∨ kd = 5 ∨ kd = 6 := hk
 rcases hk with rfl | rfl | rfl | rfl | rfl | rfl
 ·refine (exec1 id a b x y vx vy an sp de ln k r ao n c w gw lgw (fun nn er u => ∃ P', AddBP (bodyOr ⟨1, id, a, b, x, y, vx, vy, an, sp, de, ln, k, r, ao, n, c, f⟩) G.P nn er P' ∧ GV X u gw ⟨G.tk, G.gx, G.gy, P'⟩ ∧ But (fun g => g = gw) w u) ?_).mono ?_
  ·intro v k'
   refine (addB_g (bodyOr ⟨1, id, a, b, x, y, vx, vy, an, sp, de, ln, k, r, ao, n, c, f⟩) (WVar.kept hV k') hG hXg (lX v k') (Sl.kept hos k') hoi.body hok).mono ?_
   rintro e u ⟨nn, er, P', rfl, h1, h2, h3⟩
   exact ⟨nn, er, rfl, P', h1, h2, (Made.but k').then_ h3⟩
  ·rintro e v ⟨nn, er, rfl, P', h1, h2, h3⟩
   exact ⟨er, ⟨G.tk, G.gx, G.gy, P'⟩, rfl, .inl ⟨rfl, nn, P', h1, rfl⟩, h2, h3.bub⟩
 ·refine (exec2 id a b x y vx vy an sp de ln k r ao n c w gw lgw (fun gone u => ∃ P', RemBP id G.P gone P' ∧ GV X u gw ⟨G.tk, G.gx, G.gy, P'⟩ ∧ But (fun g => g = gw) w u) ?_).mono ?_
  ·intro v k'
   refine (remB_g id (WVar.kept hV k') hG hXg (lX v k') hmC).mono ?_
   rintro e u ⟨gone, P', rfl, h1, h2, h3⟩
   exact ⟨gone, rfl, P', h1, h2, (Made.but k').then_ h3⟩
  ·rintro e v ⟨rfl, gone, P', h1, h2, h3⟩
   exact ⟨0, ⟨G.tk, G.gx, G.gy, P'⟩, rfl, .inr (.inl ⟨rfl, rfl, gone, P', h1, rfl⟩), h2, h3.bub⟩
 ·refine (exec3 id a b x y vx vy an sp de ln k r ao n c w gw lgw (fun nn er u => ∃ P', AddJP (jointOr ⟨3, id, a, b, x, y, vx, vy, an, sp, de, ln, k, r, ao, n, c, f⟩) G.P nn er P' ∧ GV X u gw ⟨G.tk, G.gx, G.gy, P'⟩ ∧ But (fun g => g = gw) w u) ?_).mono ?_
  ·intro v k'
   refine (addJ_g (jointOr ⟨3, id, a, b, x, y, vx, vy, an, sp, de, ln, k, r, ao, n, c, f⟩) (WVar.kept hV k') hG hXg (lX v k') hoi.joint).mono ?_
   rintro e u ⟨nn, er, P', rfl, h1, h2, h3⟩
   exact ⟨nn, er, rfl, P', h1, h2, (Made.but k').then_ h3⟩
  ·rintro e v ⟨nn, er, rfl, P', h1, h2, h3⟩
   exact ⟨er, ⟨G.tk, G.gx, G.gy, P'⟩, rfl, .inr (.inr (.inl ⟨rfl, nn, P', h1, rfl⟩)), h2, h3.bub⟩
 ·refine (exec4 id a b x y vx vy an sp de ln k r ao n c w gw lgw (fun gone u => ∃ P', RemJP id G.P gone P' ∧ GV X u gw ⟨G.tk, G.gx, G.gy, P'⟩ ∧ But (fun g => g = gw) w u) ?_).mono ?_
  ·intro v k'
   refine (remJ_g id (WVar.kept hV k') hG hXg (lX v k')).mono ?_
   rintro e u ⟨gone, P', rfl, h1, h2, h3⟩
   exact ⟨gone, rfl, P', h1, h2, (Made.but k').then_ h3⟩
  ·rintro e v ⟨rfl, gone, P', h1, h2, h3⟩
   exact ⟨0, ⟨G.tk, G.gx, G.gy, P'⟩, rfl, .inr (.inr (.inr (.inl ⟨rfl, rfl, gone, P', h1, rfl⟩))), h2, h3.bub⟩
 ·refine (exec5 id a b x y vx vy an sp de ln k r ao n c w gw lgw (fun u => ∃ P', PushP id vx vy sp G.P P' ∧ GV X u gw ⟨G.tk, G.gx, G.gy, P'⟩ ∧ BuB (fun g => g = gw) w u) (fun v k' => (HP rfl v k').mono fun e u ⟨h0, P', h1, h2, h3⟩ => ⟨h0, P', h1, h2, (Made.bub k').then_ h3⟩)).mono ?_
  rintro e v ⟨rfl, P', h1, h2, h3⟩
  exact ⟨0, ⟨G.tk, G.gx, G.gy, P'⟩, rfl, .inr (.inr (.inr (.inr (.inl ⟨rfl, rfl, P', h1, rfl⟩)))), h2, h3⟩
 ·obtain ⟨ob, oj, oc, cb, cj, cc, hH, hL⟩ := hV
  refine (exec6 id a b x y vx vy an sp de ln k r ao n c w gw lgw hH).mono ?_
  rintro e v ⟨rfl, kb, hh⟩
  exact ⟨0, ⟨G.tk, vx, vy, G.P⟩, rfl, .inr (.inr (.inr (.inr (.inr ⟨rfl, rfl, rfl⟩)))), ⟨ob, oj, oc, cb, cj, cc, hh, hL.but kb (fun b hb => by have hb : b = gw := hb; rw [hb]; exact hXg)⟩, kb.bub⟩
theorem odo_x (kd id a b x y vx vy an sp de ln k r : Int) (ao : Option Addr) (n c : Nat) (w : World) (gw : Nat) (lgw : gw < w.heap.size) (R : Int → World → Prop) (HA : ∀ v, Made w.heap.size w v → Calls Tryz.prog 30 #[.pointer (some ⟨gw, 0, none⟩), .agg #[.int .i64 kd, .int .i64 id, .int .i64 a, .int .i64 b, .int .i64 x, .int .i64 y, .int .i64 vx, .int .i64 vy, .int .i64 an, .int .i64 sp, .int .i64 de, .int .i64 ln, .int .i64 k, .int .i64 r, .slice ao n c]] v fun e u => ∃ er, e = .returned (.int .i64 er) ∧ R er u) :
  Calls Tryz.prog 13 #[.pointer (some ⟨gw, 0, none⟩), .agg #[.int .i64 kd, .int .i64 id, .int .i64 a, .int .i64 b, .int .i64 x, .int .i64 y, .int .i64 vx, .int .i64 vy, .int .i64 an, .int .i64 sp, .int .i64 de, .int .i64 ln, .int .i64 k, .int .i64 r, .slice ao n c]] w fun e v => e = .returned (.tuple #[]) ∧ ∃ er, R er v := by
 have HA := hid HA
 obtain ⟨W, eW⟩ : ∃ W, W = w.alloc (.cells #[.int .i64 kd, .int .i64 id, .int .i64 a, .int .i64 b, .int .i64 x, .int .i64 y, .int .i64 vx, .int .i64 vy, .int .i64 an, .int .i64 sp, .int .i64 de, .int .i64 ln, .int .i64 k, .int .i64 r, .slice ao n c] 49) := ⟨_, rfl⟩
 have KW : Hid (Made w.heap.size w W) := by unfold Hid; rw [eW]; exact (Made.rfl_ _ _).cells (Nat.le_refl _) _ _
 have HB : Hid (Has W w.heap.size 49 #[.int .i64 kd, .int .i64 id, .int .i64 a, .int .i64 b, .int .i64 x, .int .i64 y, .int .i64 vx, .int .i64 vy, .int .i64 an, .int .i64 sp, .int .i64 de, .int .i64 ln, .int .i64 k, .int .i64 r, .slice ao n c]) := by unfold Hid; rw [eW]; exact has_new _ _ _
 obtain ⟨g1, eg1⟩ : ∃ g, w.heap.size = g := ⟨_, rfl⟩
 have HG1 := hid eg1
 rw [eg1] at HB
 have b_0 := HB.out.at_ 0
 have b_1 := HB.out.at_ 1
 have b_2 := HB.out.at_ 2
 have b_3 := HB.out.at_ 3
 have b_4 := HB.out.at_ 4
 have b_5 := HB.out.at_ 5
 have b_6 := HB.out.at_ 6
 have b_7 := HB.out.at_ 7
 have b_8 := HB.out.at_ 8
 have b_9 := HB.out.at_ 9
 have b_10 := HB.out.at_ 10
 have b_11 := HB.out.at_ 11
 have b_12 := HB.out.at_ 12
 have b_13 := HB.out.at_ 13
 have b_14 := HB.out.at_ 14
 simp at b_0 b_1 b_2 b_3 b_4 b_5 b_6 b_7 b_8 b_9 b_10 b_11 b_12 b_13 b_14
 have l1 : g1 < W.heap.size := HB.out.here
 go_enter Tryz.func13, Tryz.ntmps13
 go_upto_region 1 with fail
 rw [← eW]
 clear eW
 try rw [eg1]
 clear eg1
 have lw : gw < W.heap.size := Nat.lt_of_lt_of_le lgw KW.out.1.size
 go_wp2_with fail
 refine (HA.out _ KW.out).mono ?_
 rintro e w1 ⟨er, rfl, hR⟩
 have HR := hid hR
 clear hR b_0 b_1 b_2 b_3 b_4 b_5 b_6 b_7 b_8 b_9 b_10 b_11 b_12 b_13 b_14 l1 lw
 go_wp2_with fail
 first | refine void_end rfl rfl ?_ | refine void_ret rfl rfl ?_
 exact ⟨rfl, er, HR.out⟩
theorem odo_c {X : Nat → Prop} {w : World} {gw : Nat} {G : PG} (o : Or) (hV : GV X w gw G) (hG : GOk G) (hXg : X gw) (hXw : ∀ b, X b → b < w.heap.size) (hoi : OrI o) (hoP : OrderP o) (hos : Sl w o.ao o.n o.f) (hok : (o.ao = none ∧ o.n = 0 ∧ o.c = 0) ∨ ∃ a, o.ao = some a) (hmC : G.P.C.length ≤ 1073741824)
  (HP : o.kd = 5 → ∀ v, Made w.heap.size w v → Calls Tryz.prog 51 #[.pointer (some ⟨gw, 0, none⟩), orV o] v fun e u => e = .returned (.tuple #[]) ∧ ∃ P', PushP o.id o.vx o.vy o.sp G.P P' ∧ GV X u gw ⟨G.tk, G.gx, G.gy, P'⟩ ∧ BuB (fun g => g = gw) v u) :
  Calls Tryz.prog 13 #[.pointer (some ⟨gw, 0, none⟩), orV o] w fun e v => e = .returned (.tuple #[]) ∧ ∃ er G', ExecP o G er G' ∧ GV X v gw G' ∧ BuB (fun g => g = gw) w v := by
 refine (odo_x o.kd o.id o.a o.b o.x o.y o.vx o.vy o.an o.sp o.de o.ln o.k o.r o.ao o.n o.c w gw (WVar.here hV) (fun er u => ∃ G', ExecP o G er G' ∧ GV X u gw G' ∧ BuB (fun g => g = gw) w u) ?_).mono ?_
 ·intro v k
  refine (exec_c o (WVar.kept hV k) hG hXg (fun b hb => Nat.lt_of_lt_of_le (hXw b hb) k.1.size) hoi hoP (Sl.kept hos k) hok hmC (fun h5 u ku => ?_)).mono ?_
  ·refine (HP h5 u (k.then_ (ku.low k.1.size))).mono ?_
   exact fun e z h => h
  ·rintro e u ⟨er, G', rfl, h1, h2, h3⟩
   exact ⟨er, rfl, G', h1, h2, (Made.bub k).then_ h3⟩
 ·rintro e v ⟨rfl, er, G', h1, h2, h3⟩
  exact ⟨rfl, er, G', h1, h2, h3⟩
end Go.Proofs.YtjecadafjnbijaaGreat.Fx
/- The order of a deed, packed; orders as letters. -/
namespace Go.Proofs.YtjecadafjnbijaaGreat.Fx
open Go.ChangeShapes Go.WideShapes Go.ChangeAt Go.RowKit
set_option linter.unusedVariables false
def Or.on (o : Or) (ao : Option Addr) (c : Nat) : Or := { o with ao := ao, c := c }
theorem encO_one (o : Or) : ∀ v ∈ encO o, v.oneCell' = true := by
 intro v hv; simp [encO] at hv; rcases hv with rfl | rfl | rfl | rfl | rfl | rfl | rfl | rfl | rfl | rfl | rfl | rfl | rfl | rfl | rfl <;> rfl
theorem ordOf_else {K aq VX VY SP PX PY : Int} {j : Jt} (b : Bd) (h : ¬ ((¬ K = 2 ∧ ¬ K = 3 ∧ ¬ (K = 4 ∨ K = 5)) ∧ ¬ K = 6 ∧ ¬ K = 7)) (ao : Option Addr) (c : Nat) :
  ordOf K aq VX VY SP PX PY j { b with ao := ao, c := c } = (ordOf K aq VX VY SP PX PY j b).on none 0 ∧ (ordOf K aq VX VY SP PX PY j b).n = 0 := by
 have h : K = 2 ∨ K = 3 ∨ K = 4 ∨ K = 5 ∨ K = 6 ∨ K = 7 := by omega
 rcases h with rfl | rfl | rfl | rfl | rfl | rfl <;> simp [ordOf, Or.on]
def OrdV (O : Or) (B lo hi : Nat) (v : World) (x : Value) : Prop := ∃ ao c, x = .agg (encO (O.on ao c)).toArray ∧ Sl v ao O.n O.f ∧ ((ao = none ∧ O.n = 0 ∧ c = 0) ∨ ∃ a, ao = some a) ∧ (0 < O.n → ∀ b off s, ao = some ⟨b, off, s⟩ → b < B ∨ (lo ≤ b ∧ b < hi))
theorem ordOf_not1 {K aq VX VY SP PX PY : Int} {j : Jt} {b : Bd} (h : ¬ ((¬ K = 2 ∧ ¬ K = 3 ∧ ¬ (K = 4 ∨ K = 5)) ∧ ¬ K = 6 ∧ ¬ K = 7)) : (ordOf K aq VX VY SP PX PY j b).kd ≠ 1 := by
 have h : K = 2 ∨ K = 3 ∨ K = 4 ∨ K = 5 ∨ K = 6 ∨ K = 7 := by omega
 rcases h with rfl | rfl | rfl | rfl | rfl | rfl <;> simp [ordOf]
theorem ordOf_joint {K aq VX VY SP PX PY : Int} {j : Jt} {b : Bd} (h : (ordOf K aq VX VY SP PX PY j b).kd = 3) : j = { jointOr (ordOf K aq VX VY SP PX PY j b) with id := j.id } := by
 unfold ordOf at h ⊢
 split at h
 ·simp at h
 ·split at h
  ·simp at h
  ·split at h
   ·rename_i h1 h2 h3
    rw [if_neg h1, if_neg h2, if_pos h3]
    rfl
   ·split at h
    ·simp at h
    ·split at h
     ·simp at h
     ·simp at h
def BodyO (d : De) (O : Or) : Prop := O.kd = 1 → ∃ bi, I64 bi ∧ ∀ w, Sl w d.rao d.rn d.rf → Calls Tryz.prog 40 #[.agg (encD d).toArray] w fun e v => ∃ ao c, e = .returned (bodyV bi O.x O.y O.vx O.vy O.an O.sp O.de O.k O.r (.slice ao O.n c)) ∧ Sl v ao O.n O.f ∧ ((ao = none ∧ O.n = 0 ∧ c = 0) ∨ ∃ a, ao = some a) ∧ Made w.heap.size w v
def JointO (d : De) (O : Or) : Prop := O.kd = 3 → jointOf d = { jointOr O with id := (jointOf d).id }
theorem order_mk2 (d : De) (hi : DeI d) : ∃ O : Or, OrI O ∧ (O.n ≤ 8 ∨ O.n = d.rn) ∧ BodyO d O ∧ JointO d O ∧ ∀ (B : Nat) (w : World), Sl w d.rao d.rn d.rf → (0 < d.rn → ∀ b off s, d.rao = some ⟨b, off, s⟩ → b < B) → Calls Tryz.prog 21 #[.agg (encD d).toArray] w fun e v => ∃ x, e = .returned x ∧ OrdV O B w.heap.size v.heap.size v x ∧ Made w.heap.size w v := by
 obtain ⟨bd, hbd, hbn, hBo, hB⟩ := dorder_c2 d hi
 have iM : I64 858993459200 := by unfold I64; omega
 have iN : I64 (-858993459200) := by unfold I64; omega
 have jM : I64 214748364800 := by unfold I64; omega
 have jN : I64 (-214748364800) := by unfold I64; omega
 have hO : OrI (ordOf (d.kd % 8) (d.a % 16) (bringF d.vx (negF 858993459200) 858993459200) (bringF d.vy (negF 858993459200) 858993459200) (bringF d.sp (-858993459200) 858993459200) (bringF d.vx (negF 214748364800) 214748364800) (bringF d.vy (negF 214748364800) 214748364800) (jointOf d) bd) :=
  ordOf_i (by unfold I64; omega) (bring_I hi.vx (by exact iN) iM) (bring_I hi.vy (by exact iN) iM) (bring_I hi.sp iN iM) (bring_I hi.vx (by exact jN) jM) (bring_I hi.vy (by exact jN) jM) (jointOf_i hi) hbd
 by_cases h : (¬ d.kd % 8 = 2 ∧ ¬ d.kd % 8 = 3 ∧ ¬ (d.kd % 8 = 4 ∨ d.kd % 8 = 5)) ∧ ¬ d.kd % 8 = 6 ∧ ¬ d.kd % 8 = 7
 ·refine ⟨_, hO, ?_, fun _ => ⟨bd.id, hbd.id, fun w hs => ?_⟩, fun h3 => ?_, fun B w hs hb => (hB w hs).mono ?_⟩
  ·rw [ordOf_1 h]; exact hbn
  ·rw [ordOf_1 h]; exact hBo w hs
  ·rw [ordOf_1 h] at h3; simp at h3
  ·rintro e v ⟨ao, c, rfl, h1, ⟨h2, h4⟩, h3⟩
   rw [ordOf_1 h] at h1
   have h1 : Sl v ao bd.n bd.f := h1
   refine ⟨_, rfl, ⟨ao, c, ?_, ?_, ?_, ?_⟩, h3⟩
   ·rw [ordOf_1 h, ordOf_1 h]; rfl
   ·rw [ordOf_1 h]; exact h1
   ·rw [ordOf_1 h]; exact h2
   ·rw [ordOf_1 h]
    intro hn b off s e
    have hn : 0 < bd.n := hn
    rcases h4 with ⟨h5, h6⟩ | h5
    ·exact .inl (hb (by omega) b off s (by rw [← h5]; exact e))
    ·refine .inr ⟨h5 b off s e, ?_⟩
     obtain ⟨b', off', e', hp⟩ := h1 hn
     rw [e] at e'
     cases e'
     exact World.block_lt_of_cell? _ _ (hp 0 hn).1
 ·refine ⟨_, hO, .inl ?_, fun h1 => ?_, fun h3 => ?_, fun B w hs hb => (hB w hs).mono ?_⟩
  ·rw [(ordOf_else bd h none 0).2]; omega
  ·exact absurd h1 (ordOf_not1 h)
  ·exact ordOf_joint h3
  ·rintro e v ⟨ao, c, rfl, h1, h2, h3⟩
   refine ⟨_, rfl, ⟨none, 0, ?_, fun hn => ?_, .inl ⟨rfl, (ordOf_else bd h none 0).2, rfl⟩, fun hn b off s e => by cases e⟩, h3⟩
   ·rw [(ordOf_else bd h ao c).1]; rfl
   ·rw [(ordOf_else bd h none 0).2] at hn; omega
theorem Has.whole {w : World} {g : Nat} {t : TypeId} {A : Array Value} (h : Has w g t A) {vs : Array Value} (hs : vs.size = A.size) : Has (w.setCells g 0 vs.toList) g t vs := by
 obtain ⟨A', h1, h2, h3, h4⟩ := Has.setCells vs.toList 0 h
 have e : A' = vs := by
  refine Array.ext (by omega) fun i hi hi' => ?_
  have h5 := h4 i vs[i] (by simp [hi']) (by omega)
  rw [Nat.zero_add, Array.getElem?_eq_getElem hi] at h5
  exact Option.some.inj h5
 rw [e] at h1
 exact h1
end Go.Proofs.YtjecadafjnbijaaGreat.Fx
/- The statements' Orders of deeds. -/
namespace Go.Proofs.YtjecadafjnbijaaGreat.Fx
open Go.ChangeShapes Go.WideShapes Go.ChangeAt Go.RowKit
set_option linter.unusedVariables false
theorem infoO : (Tryz.prog.info? 49).map (fun i => (i.zero, i.size, i.bytes)) = some (some (.agg #[.int .i64 0, .int .i64 0, .int .i64 0, .int .i64 0, .int .i64 0, .int .i64 0, .int .i64 0, .int .i64 0, .int .i64 0, .int .i64 0, .int .i64 0, .int .i64 0, .int .i64 0, .int .i64 0, .slice none 0 0]), 15, 136) := by kernel_rfl
theorem wpList_append_at {P : Program} {w : World} {ops : Array Oper} {rest : List Oper} {o : Oper} {a : Act} {Q : Exit → Act → World → Prop} (hgd : o.guard = none) (s x : Operand) (t : TypeId)
  (ho : o.op = .call { callee := .builtin .append, args := #[s, x], argTypes := #[t, t] })
  (base : Nat) (e : TypeId) (i : TypeInfo) (z : Value) (size bytes : Nat) (ht : P.underlying t = some (.slice e)) (hi : P.info? e = some i) (hz : i.zero = some z)
  (hsize : i.size = size) (hby : i.bytes = bytes) (hzs : z.cells.size = size) (hsz : 0 < size)
  (v : Value) (n : Nat) (xs : List Value) (hs : a.eval s = v) (hown : w.ownsRow base e size v n xs)
  (ad : Addr) (m c : Nat) (news : List Value) (hx : a.eval x = .slice (some ad) m c) (hl : news.length = m * size) (hnews : ∀ j u, news[j]? = some u → w.cell? (ad.add j) = some u) (h1 : ∀ u ∈ news, u.oneCell' = true)
  (h63 : n + m ≤ maxLen) (hbytes : (n + m) * bytes ≤ 140737488355328) (hbase : base ≤ w.heap.size) (hm : 0 < m)
  (h : ∀ v' w', w'.ownsRow base e size v' (n + m) (xs ++ news) → But (fun b => some b = v.ownBlock) w w' → (v'.ownBlock = v.ownBlock ∨ v'.ownBlock = some w.heap.size) → wpList P ops Q rest (a.put o.dst v') w') : wpList P ops Q (o :: rest) a w := by
 refine wpList_plain hgd fun _ hK => ?_
 obtain ⟨v', w', hr, h2, h3, _, h5⟩ := run_append_own_at (P := P) (w := w) base t o.type e i z size bytes ht hi hz hsize hby hzs hsz v n xs hown ad m c news hl hnews h1 h63 hbytes hbase
 have hf := append_frozen (P := P) w base t o.type e i z size bytes ht hi hz hsize hby hsz v n xs hown ad m c news hl hnews h1 h63 hbytes hm hr
 have hb : But (fun b => some b = v.ownBlock) w w' := ⟨h3.os, h3.tape, h3.output, h3.size, fun b hb hx => h3.block b hb (fun e => hx (by rw [e])), hf⟩
 unfold Oper.wp execOp
 simp only [ho, resolve, invoke, builtin, Sem.run_bind, Sem.run_pure, Result.andThen_ok, List.map_toArray, List.map_cons, List.map_nil, hs, hx, hr]
 exact hK _ _ (h v' w' h2 hb h5)
def OffO (x : Value) (o : Or) : Prop := 0 < o.n → ∀ b off s, o.ao = some ⟨b, off, s⟩ → some b ≠ x.ownBlock
def OrOf (l : List De) (w : World) (o : Or) : Prop := OrI o ∧ (o.n ≤ 8 ∨ ∃ d ∈ l, o.n = d.rn) ∧ Sl w o.ao o.n o.f ∧ ((o.ao = none ∧ o.n = 0 ∧ o.c = 0) ∨ ∃ a, o.ao = some a)
theorem OrOf.kept {l : List De} {w v : World} {o : Or} (h : OrOf l w o) (k : Made w.heap.size w v) : OrOf l v o := ⟨h.1, h.2.1, Sl.kept h.2.2.1 k, h.2.2.2⟩
theorem orders_c {l : List De} {ao : Option Addr} {n c : Nat} {w : World} (most : Nat) (hmost : most ≤ 64) (hn : l.length = n) (hD : DesAt w ao l) (hnc : n ≤ c) (hcm : c ≤ maxLen) (ho : (ao = none ∧ n = 0 ∧ c = 0) ∨ ∃ a, ao = some a) :
  Calls Tryz.prog 8 #[.slice ao n c, .int .i64 (most : Nat)] w fun e v => ∃ (L : List Or) (x : Value), e = .returned x ∧ L.length = min n most ∧ v.ownsRow w.heap.size 49 15 x L.length (flatE encO L) ∧ (∀ o ∈ L, OrOf l v o ∧ OffO x o) ∧ Made w.heap.size w v := by
 unfold maxLen at hcm
 obtain ⟨m, em⟩ : ∃ m, min n most = m := ⟨_, rfl⟩
 have hmm : min (n : Int) (most : Int) = (m : Int) := by omega
 have hmn : m ≤ n := by omega
 have hmo : m ≤ most := by omega
 have HN := hid hn
 have HD := hid (fun v (k : Made w.heap.size w v) => hD.kept k)
 have HEM := hid em
 have HDw := hid hD.2
 obtain ⟨iO, hiO, hz0, hz1, hz2⟩ := info_parts infoO
 have iHi := hid hiO; have iH0 := hid hz0; have iH1 := hid hz1; have iH2 := hid hz2
 clear hn hD em hiO hz0 hz1 hz2
 go_enter Tryz.func8, Tryz.ntmps8
 rcases ho with ⟨rfl, rfl, rfl⟩ | ⟨adr, rfl⟩
 ·have hm0 : m = 0 := by omega
  go_wp2_with fail
  go_loopg [5, 7, 15] 0 (fun gg s5 s7 s15 wx => s15 = .int .i64 0 ∧ s5 = .slice none 0 0 ∧ Hid (Made w.heap.size w wx))
  case atStart => exact ⟨by first | rfl | trivial, rfl, Made.rfl_ _ _⟩
  case round =>
   obtain ⟨rfl, rfl, HH⟩ := hrel
   go_wp2_with fail
   go_ret
   exact ⟨[], _, rfl, by rw [HEM.out, hm0]; rfl, World.ownsRow_nil _ _ _ _, fun o ho => (by cases ho), HH.out⟩
 ·go_wp2_with fail
  go_loopg [5, 7, 15] m (fun gg s5 s7 s15 wx => ∃ (k : Nat) (L : List Or), k + gg = m ∧ s15 = .int .i64 (k : Nat) ∧ Hid (L.length = k ∧ wx.ownsRow w.heap.size 49 15 s5 k (flatE encO L) ∧ (∀ o ∈ L, OrOf l wx o ∧ OffO s5 o) ∧ Made w.heap.size w wx))
  case atStart => exact ⟨0, [], by omega, by first | rfl | trivial, rfl, World.ownsRow_nil _ _ _ _, fun o ho => (by cases ho), Made.rfl_ _ _⟩
  case round =>
   obtain ⟨k, L, hk, rfl, HH⟩ := hrel
   have HLk := hid HH.out.1
   have HW := hid HH.out.2.1
   have HO := hid HH.out.2.2.1
   have HM := hid HH.out.2.2.2
   clear HH
   by_cases hkm : k < m
   ·obtain ⟨d, hd⟩ : ∃ d, l[k]? = some d := ⟨_, List.getElem?_eq_getElem (by rw [HN.out]; omega)⟩
    have hdes := HD.out wr HM.out
    obtain ⟨b, off, eao, hb, hLB⟩ := hdes.1 (by rw [HN.out]; omega)
    obtain ⟨hdi, hds⟩ := hdes.2 d (List.mem_of_getElem? hd)
    obtain ⟨A, hAi, hAn, _, _, hA⟩ := order_mk2 d hdi
    have HMem := hid (List.mem_of_getElem? hd)
    obtain ⟨cs, ecs⟩ : ∃ cs, encD d = cs := ⟨_, rfl⟩
    have HRg : Hid (wr.rangeAt b (off + k * 30) cs) := by unfold Hid; rw [← ecs]; exact LsB.rangeAt hLB hd
    have HLN : Hid (cs.length = 30) := by unfold Hid; rw [← ecs]; rfl
    have H1C : Hid (∀ v ∈ cs, v.oneCell' = true) := by unfold Hid; rw [← ecs]; exact encD_one d
    rw [ecs] at hA
    obtain ⟨g7, eg7⟩ : ∃ g, wr.heap.size = g := ⟨_, rfl⟩
    have HTH : Hid ((wr.alloc (.cells #[.int .i64 0, .int .i64 0, .int .i64 0, .int .i64 0, .int .i64 0, .int .i64 0, .int .i64 0, .int .i64 0, .int .i64 0, .int .i64 0, .int .i64 0, .int .i64 0, .int .i64 0, .int .i64 0, .int .i64 0, .int .i64 0, .int .i64 0, .int .i64 0, .int .i64 0, .int .i64 0, .int .i64 0, .int .i64 0, .int .i64 0, .int .i64 0, .int .i64 0, .int .i64 0, .int .i64 0, .int .i64 0, .int .i64 0, .slice none 0 0] 37)).there g7 0 cs.toArray.size) := by
     unfold Hid; rw [← eg7]; exact there_of (has_new _ _ _) (by rw [List.size_toArray, HLN.out]; decide)
    have HA := hid hA
    have HAi := hid hAi
    have HAn := hid hAn
    have HDs := hid hds
    clear hd hdes hLB hdi hds hAi hAn hA ecs
    cases eao
    go_upto_region 5 with (first
     | refine wpList_load_mid rfl 37 (.tmp 17) rfl b (off + k * 30) rfl cs _ HRg.out Tryz.underlying37 rfl (by rw [HLN.out]; kernel_rfl) ?_
     | refine wpList_store_mid rfl 37 (.tmp 7) (.tmp 18) rfl g7 0 cs.toArray rfl rfl HTH.out (by rw [List.size_toArray, HLN.out]; kernel_rfl) (all_oneCell_toArray H1C.out) ?_)
    obtain ⟨W4, e4⟩ : ∃ V, V = (wr.alloc (.cells #[.int .i64 0, .int .i64 0, .int .i64 0, .int .i64 0, .int .i64 0, .int .i64 0, .int .i64 0, .int .i64 0, .int .i64 0, .int .i64 0, .int .i64 0, .int .i64 0, .int .i64 0, .int .i64 0, .int .i64 0, .int .i64 0, .int .i64 0, .int .i64 0, .int .i64 0, .int .i64 0, .int .i64 0, .int .i64 0, .int .i64 0, .int .i64 0, .int .i64 0, .int .i64 0, .int .i64 0, .int .i64 0, .int .i64 0, .slice none 0 0] 37)).setCells g7 0 cs := ⟨_, rfl⟩
    have k4 : Made wr.heap.size wr W4 := by rw [e4]; exact Made.setCells (Nat.le_of_eq eg7) _ _ ((Made.rfl_ _ _).cells (Nat.le_refl _) _ _)
    have HX4 : Hid (Has W4 g7 37 cs.toArray) := by
     unfold Hid
     have h := (has_new wr 37 #[.int .i64 0, .int .i64 0, .int .i64 0, .int .i64 0, .int .i64 0, .int .i64 0, .int .i64 0, .int .i64 0, .int .i64 0, .int .i64 0, .int .i64 0, .int .i64 0, .int .i64 0, .int .i64 0, .int .i64 0, .int .i64 0, .int .i64 0, .int .i64 0, .int .i64 0, .int .i64 0, .int .i64 0, .int .i64 0, .int .i64 0, .int .i64 0, .int .i64 0, .int .i64 0, .int .i64 0, .int .i64 0, .int .i64 0, .slice none 0 0]).whole (vs := cs.toArray) (by rw [List.size_toArray, HLN.out]; rfl)
     rw [eg7] at h
     rw [e4]
     exact h
    rw [← e4]
    clear e4 eg7 HTH
    have HW4 := hid (own_below (B := 0) HW.out k4.1)
    have HO4 := hid (fun o ho => And.intro ((HO.out o ho).1.kept k4) (HO.out o ho).2)
    have HM4 : Hid (Made w.heap.size w W4) := HM.out.then_ (k4.low HM.out.1.size)
    have HOr := hid (HA.out w.heap.size W4 (Sl.kept HDs.out k4) (fun hn b off s e => by obtain ⟨b', off', e', hp⟩ := (HDw.out d HMem.out).2 hn; rw [e] at e'; cases e'; exact World.block_lt_of_cell? _ _ (hp 0 hn).1))
    clear k4 HW HO HM HA
    go_wp2_with (refine wpList_load_row rfl 37 (.tmp 7) rfl g7 rfl 37 _ (0, 0) _ HX4.out Tryz.underlying37 rfl (by rw [List.size_toArray, HLN.out]; kernel_rfl) ?_)
    refine HOr.out.mono ?_
    rintro e w5 ⟨xv, rfl, hxv, k5⟩
    obtain ⟨xo, xc, exv, hsx, hox, hwx⟩ := hxv
    obtain ⟨xkd, xid, xa, xb, xx, xy, xvx, xvy, xan, xsp, xde, xln, xk, xr, xo0, xn, xc0, xf⟩ := A
    have exv1 : xv = .agg #[.int .i64 xkd, .int .i64 xid, .int .i64 xa, .int .i64 xb, .int .i64 xx, .int .i64 xy, .int .i64 xvx, .int .i64 xvy, .int .i64 xan, .int .i64 xsp, .int .i64 xde, .int .i64 xln, .int .i64 xk, .int .i64 xr, .slice xo xn xc] := exv
    clear exv
    subst exv1
    have HNew : Hid (OrOf l w5 (⟨xkd, xid, xa, xb, xx, xy, xvx, xvy, xan, xsp, xde, xln, xk, xr, xo, xn, xc, xf⟩ : Or)) := ⟨⟨HAi.out.kd, HAi.out.id, HAi.out.a, HAi.out.b, HAi.out.x, HAi.out.y, HAi.out.vx, HAi.out.vy, HAi.out.an, HAi.out.sp, HAi.out.de, HAi.out.ln, HAi.out.k, HAi.out.r, HAi.out.f⟩, HAn.out.imp id (fun h => ⟨d, HMem.out, h⟩), hsx, hox⟩
    have HOffN : Hid (OffO u5 (⟨xkd, xid, xa, xb, xx, xy, xvx, xvy, xan, xsp, xde, xln, xk, xr, xo, xn, xc, xf⟩ : Or)) := fun hn b off s e hb => by
     have h1 := HW4.out.lt b hb.symm
     rcases hwx hn b off s e with h | h
     ·omega
     ·omega
    have HLt5 : Hid (0 < xn → ∀ b off s, xo = some ⟨b, off, s⟩ → b < w5.heap.size) := fun hn b off s e => by
     obtain ⟨b', off', e', hp⟩ := hsx hn
     have e' : xo = some ⟨b', off', none⟩ := e'
     rw [e] at e'
     cases e'
     exact World.block_lt_of_cell? _ _ (hp 0 hn).1
    have HW5 := hid (own_below (B := 0) HW4.out k5.1)
    have HO5 := hid (fun o ho => And.intro ((HO4.out o ho).1.kept k5) (HO4.out o ho).2)
    have HM5 : Hid (Made w.heap.size w w5) := HM4.out.then_ (k5.low HM4.out.1.size)
    clear hsx hox hwx k5 HW4 HO4 HM4 HOr HX4 HAi HAn
    have HOw : Hid ((w5.alloc (.cells #[.int .i64 xkd, .int .i64 xid, .int .i64 xa, .int .i64 xb, .int .i64 xx, .int .i64 xy, .int .i64 xvx, .int .i64 xvy, .int .i64 xan, .int .i64 xsp, .int .i64 xde, .int .i64 xln, .int .i64 xk, .int .i64 xr, .slice xo xn xc] 49)).ownsRow w.heap.size 49 15 u5 k (flatE encO L)) := HW5.out.alloc _
    have HNb : Hid (Has (w5.alloc (.cells #[.int .i64 xkd, .int .i64 xid, .int .i64 xa, .int .i64 xb, .int .i64 xx, .int .i64 xy, .int .i64 xvx, .int .i64 xvy, .int .i64 xan, .int .i64 xsp, .int .i64 xde, .int .i64 xln, .int .i64 xk, .int .i64 xr, .slice xo xn xc] 49)) w5.heap.size 49 #[.int .i64 xkd, .int .i64 xid, .int .i64 xa, .int .i64 xb, .int .i64 xx, .int .i64 xy, .int .i64 xvx, .int .i64 xvy, .int .i64 xan, .int .i64 xsp, .int .i64 xde, .int .i64 xln, .int .i64 xk, .int .i64 xr, .slice xo xn xc]) := has_new _ _ _
    have hs5 := HM5.out.1.size
    go_wp2_with (at_builtin; refine wpList_append_at rfl (.tmp 19) (.tmp 22) 45 rfl w.heap.size 49 iO (.agg #[.int .i64 0, .int .i64 0, .int .i64 0, .int .i64 0, .int .i64 0, .int .i64 0, .int .i64 0, .int .i64 0, .int .i64 0, .int .i64 0, .int .i64 0, .int .i64 0, .int .i64 0, .int .i64 0, .slice none 0 0]) 15 136 Tryz.underlying45 iHi.out iH0.out iH1.out iH2.out rfl (by decide) u5 k (flatE encO L) rfl HOw.out ⟨w5.heap.size, 0, none⟩ 1 1 [.int .i64 xkd, .int .i64 xid, .int .i64 xa, .int .i64 xb, .int .i64 xx, .int .i64 xy, .int .i64 xvx, .int .i64 xvy, .int .i64 xan, .int .i64 xsp, .int .i64 xde, .int .i64 xln, .int .i64 xk, .int .i64 xr, .slice xo xn xc] rfl rfl (has_news HNb.out) (encO_one (⟨xkd, xid, xa, xb, xx, xy, xvx, xvy, xan, xsp, xde, xln, xk, xr, xo, xn, xc, xf⟩ : Or)) (by unfold maxLen; omega) (by omega) (by simp; omega) (by omega) ?_)
    intro v6 w6 hown hbt hnx
    have kb : But (fun b => some b = u5.ownBlock) w5 w6 := (Made.but ((Made.rfl_ w5.heap.size w5).cells (Nat.le_refl _) _ _)).then_ hbt
    have HW6 : Hid (w6.ownsRow w.heap.size 49 15 v6 (k + 1) (flatE encO (L ++ [(⟨xkd, xid, xa, xb, xx, xy, xvx, xvy, xan, xsp, xde, xln, xk, xr, xo, xn, xc, xf⟩ : Or)]))) := by
     unfold Hid
     rw [← flatE_snoc]
     exact hown
    have hnx' : v6.ownBlock = u5.ownBlock ∨ v6.ownBlock = some (w5.heap.size + 1) := by simpa using hnx
    have hmv : ∀ o, OrOf l w5 o → OffO u5 o → OrOf l w6 o ∧ OffO v6 o := fun o h1 h2 => by
     refine ⟨⟨h1.1, h1.2.1, fun hn => ?_, h1.2.2.2⟩, fun hn b off s e hb => ?_⟩
     ·obtain ⟨b, off, e, hp⟩ := h1.2.2.1 hn
      exact ⟨b, off, e, hp.but kb (h2 hn b off none e)⟩
     ·rcases hnx' with h | h
      ·exact h2 hn b off s e (hb.trans h)
      ·obtain ⟨b', off', e', hp⟩ := h1.2.2.1 hn
       rw [e] at e'
       cases e'
       have h3 := World.block_lt_of_cell? _ _ (hp 0 hn).1
       rw [h] at hb
       have h4 := Option.some.inj hb
       have h3 : b < w5.heap.size := h3
       omega
    have HO6 : Hid (∀ o ∈ L ++ [(⟨xkd, xid, xa, xb, xx, xy, xvx, xvy, xan, xsp, xde, xln, xk, xr, xo, xn, xc, xf⟩ : Or)], OrOf l w6 o ∧ OffO v6 o) := fun o ho => by
     rcases List.mem_append.1 ho with ho | ho
     ·exact hmv o (HO5.out o ho).1 (HO5.out o ho).2
     ·rw [List.mem_singleton.1 ho]; exact hmv _ HNew.out HOffN.out
    have HM6 : Hid (Made w.heap.size w w6) := But.made_ HM5.out kb hs5 (fun b hb => (HW5.out.lt b hb.symm).1)
    clear hown hbt hnx hnx' hmv kb
    go_wp2_with fail
    go_roundg (m - (k + 1))
    case measure => omega
    case rel => exact ⟨k + 1, L ++ [(⟨xkd, xid, xa, xb, xx, xy, xvx, xvy, xan, xsp, xde, xln, xk, xr, xo, xn, xc, xf⟩ : Or)], by omega, by go_num, by rw [List.length_append, HLk.out]; rfl, HW6.out, HO6.out, HM6.out⟩
   ·have hkm : k = m := by omega
    go_wp2_with fail
    go_ret
    exact ⟨L, _, rfl, by rw [HLk.out, HEM.out]; exact hkm, by rw [HLk.out]; exact HW.out, HO.out, HM.out⟩
end Go.Proofs.YtjecadafjnbijaaGreat.Fx