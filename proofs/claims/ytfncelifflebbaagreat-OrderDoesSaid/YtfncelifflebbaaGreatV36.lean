/- OtB -/
import Derived.Test.YtfncelifflebbaaGreatV35

/- order.execute of any order, order.Do. -/

namespace Go.Proofs.YtfncelifflebbaaGreat.Fx
open Go.ChangeShapes Go.WideShapes Go.ChangeAt Go.RowKit
set_option linter.unusedVariables false

theorem addB_g {X : Nat → Prop} {w : World} {gw : Nat} {G : PG} (b : Bd) (hV : GV X w gw G) (hG : GOk G) (hXg : X gw) (hXw : ∀ b, X b → b < w.heap.size) (hs : Sl w b.ao b.n b.f) (hi : BdI b) (ho : (b.ao = none ∧ b.n = 0 ∧ b.c = 0) ∨ ∃ a, b.ao = some a) :
    Calls Tryz.prog 16 #[.pointer (some ⟨gw, 0, none⟩), bdV b] w fun e v => ∃ n er P', e = .returned (.tuple #[.int .i64 n, .int .i64 er]) ∧ AddBP b G.P n er P' ∧ GV X v gw ⟨G.tk, G.gx, G.gy, P'⟩ ∧ But (fun g => g = gw) w v := by
  have hP := hG.p
  obtain ⟨h1, h2, h3, h4⟩ := nb_I hP
  refine (addBody_c b hV hXg hXw hs hi ho h1 h2).mono ?_
  rintro e v (⟨a, rfl, k⟩ | ⟨a, b', rfl, k⟩ | ⟨a, b', c', rfl, k, ao, c, hv⟩)
  · exact ⟨0, 2, G.P, rfl, .inl ⟨a, rfl, rfl, rfl⟩, WVar.kept hV k, Made.but k⟩
  · exact ⟨0, 3, G.P, rfl, .inr (.inl ⟨a, b', rfl, rfl, rfl⟩), WVar.kept hV k, Made.but k⟩
  · exact ⟨G.P.nb, 0, ⟨G.P.nb + 1, G.P.nj, G.P.B ++ [newB G.P.nb b ao c], G.P.J, G.P.C⟩, rfl, .inr (.inr ⟨a, b', c', rfl, rfl, ao, c, rfl⟩), hv, k⟩
theorem addJ_g {X : Nat → Prop} {w : World} {gw : Nat} {G : PG} (j : Jt) (hV : GV X w gw G) (hG : GOk G) (hXg : X gw) (hXw : ∀ b, X b → b < w.heap.size) (hi : JtI j) :
    Calls Tryz.prog 18 #[.pointer (some ⟨gw, 0, none⟩), jtV j] w fun e v => ∃ n er P', e = .returned (.tuple #[.int .i64 n, .int .i64 er]) ∧ AddJP j G.P n er P' ∧ GV X v gw ⟨G.tk, G.gx, G.gy, P'⟩ ∧ But (fun g => g = gw) w v := by
  have hP := hG.p
  obtain ⟨h1, h2, h3, h4⟩ := nb_I hP
  refine (addJoint_c j hV hXg hXw hi h3 h4 (by have := hP.hB.len; omega) hP.hB.num.2.2.1).mono ?_
  rintro e v (⟨a, rfl, k⟩ | ⟨a, b', rfl, k⟩ | ⟨a, b', c', rfl, k⟩ | ⟨a, b', c', d, rfl, k, hv⟩)
  · exact ⟨0, 2, G.P, rfl, .inl ⟨a, rfl, rfl, rfl⟩, WVar.kept hV k, Made.but k⟩
  · exact ⟨0, 4, G.P, rfl, .inr (.inl ⟨a, b', rfl, rfl, rfl⟩), WVar.kept hV k, Made.but k⟩
  · exact ⟨0, 3, G.P, rfl, .inr (.inr (.inl ⟨a, b', c', rfl, rfl, rfl⟩)), WVar.kept hV k, Made.but k⟩
  · exact ⟨G.P.nj, 0, ⟨G.P.nb, G.P.nj + 1, G.P.B, G.P.J ++ [newJ G.P.nj j], G.P.C⟩, rfl, .inr (.inr (.inr ⟨a, b', c', d, rfl, rfl, rfl⟩)), hv, k⟩
theorem remB_g {X : Nat → Prop} {w : World} {gw : Nat} {G : PG} (id : Int) (hV : GV X w gw G) (hG : GOk G) (hXg : X gw) (hXw : ∀ b, X b → b < w.heap.size) (hmC : G.P.C.length ≤ 1073741824) :
    Calls Tryz.prog 20 #[.pointer (some ⟨gw, 0, none⟩), .int .i64 id] w fun e v => ∃ gone P', e = .returned (.bool gone) ∧ RemBP id G.P gone P' ∧ GV X v gw ⟨G.tk, G.gx, G.gy, P'⟩ ∧ But (fun g => g = gw) w v := by
  have hP := hG.p
  obtain ⟨h1, h2, h3, h4⟩ := nb_I hP
  refine (removeBody_c id hV hXg hXw (by have := hP.hB.len; omega) (by have := hP.hJ.len; omega) hmC hP.hB.num.2.2.1).mono ?_
  rintro e v (⟨a, rfl, k⟩ | ⟨a, rfl, k, hv⟩)
  · exact ⟨false, G.P, rfl, .inl ⟨a, rfl, rfl⟩, WVar.kept hV k, Made.but k⟩
  · exact ⟨true, remB G.P id, rfl, .inr ⟨a, rfl, rfl⟩, hv, k⟩
theorem remJ_g {X : Nat → Prop} {w : World} {gw : Nat} {G : PG} (id : Int) (hV : GV X w gw G) (hG : GOk G) (hXg : X gw) (hXw : ∀ b, X b → b < w.heap.size)  :
    Calls Tryz.prog 21 #[.pointer (some ⟨gw, 0, none⟩), .int .i64 id] w fun e v => ∃ gone P', e = .returned (.bool gone) ∧ RemJP id G.P gone P' ∧ GV X v gw ⟨G.tk, G.gx, G.gy, P'⟩ ∧ But (fun g => g = gw) w v := by
  have hP := hG.p
  obtain ⟨h1, h2, h3, h4⟩ := nb_I hP
  refine (removeJoint_c id hV hXg hXw (by have := hP.hJ.len; omega) hP.hJ.num.2.2.1).mono ?_
  rintro e v (⟨a, rfl, k⟩ | ⟨a, rfl, k, hv⟩)
  · exact ⟨false, G.P, rfl, .inl ⟨a, rfl, rfl⟩, WVar.kept hV k, Made.but k⟩
  · exact ⟨true, remJ G.P id, rfl, .inr ⟨a, rfl, rfl⟩, hv, k⟩
set_option maxRecDepth 100000 in
set_option maxHeartbeats 16000000 in
theorem exec5 (id a b x y vx vy an sp de ln k r : Int) (ao : Option Addr) (n c : Nat) (w : World) (gw : Nat) (lgw : gw < w.heap.size) (R : World → Prop) (HA : ∀ v, Made w.heap.size w v → Calls Tryz.prog 83 #[.pointer (some ⟨gw, 0, none⟩), .agg #[.int .i64 5, .int .i64 id, .int .i64 a, .int .i64 b, .int .i64 x, .int .i64 y, .int .i64 vx, .int .i64 vy, .int .i64 an, .int .i64 sp, .int .i64 de, .int .i64 ln, .int .i64 k, .int .i64 r, .slice ao n c]] v fun e u => e = .returned (.tuple #[]) ∧ R u) :
    Calls Tryz.prog 46 #[.pointer (some ⟨gw, 0, none⟩), .agg #[.int .i64 5, .int .i64 id, .int .i64 a, .int .i64 b, .int .i64 x, .int .i64 y, .int .i64 vx, .int .i64 vy, .int .i64 an, .int .i64 sp, .int .i64 de, .int .i64 ln, .int .i64 k, .int .i64 r, .slice ao n c]] w fun e v => e = .returned (.int .i64 0) ∧ R v := by
  have HA := hid HA
  obtain ⟨W, eW⟩ : ∃ W, W = w.alloc (.cells #[.int .i64 5, .int .i64 id, .int .i64 a, .int .i64 b, .int .i64 x, .int .i64 y, .int .i64 vx, .int .i64 vy, .int .i64 an, .int .i64 sp, .int .i64 de, .int .i64 ln, .int .i64 k, .int .i64 r, .slice ao n c] 29) := ⟨_, rfl⟩
  have KW : Hid (Made w.heap.size w W) := by unfold Hid; rw [eW]; exact (Made.rfl_ _ _).cells (Nat.le_refl _) _ _
  have HB : Hid (Has W w.heap.size 29 #[.int .i64 5, .int .i64 id, .int .i64 a, .int .i64 b, .int .i64 x, .int .i64 y, .int .i64 vx, .int .i64 vy, .int .i64 an, .int .i64 sp, .int .i64 de, .int .i64 ln, .int .i64 k, .int .i64 r, .slice ao n c]) := by unfold Hid; rw [eW]; exact has_new _ _ _
  obtain ⟨g1, eg1⟩ : ∃ g, w.heap.size = g := ⟨_, rfl⟩
  have HG1 := hid eg1
  rw [eg1] at HB
  have b_0 := HB.out.at_ 0
  have b_1 := HB.out.at_ 1
  have b_2 := HB.out.at_ 2
  have b_3 := HB.out.at_ 3
  have b_4 := HB.out.at_ 4
  have b_5 := HB.out.at_ 5
  have b_6 := HB.out.at_ 6
  have b_7 := HB.out.at_ 7
  have b_8 := HB.out.at_ 8
  have b_9 := HB.out.at_ 9
  have b_10 := HB.out.at_ 10
  have b_11 := HB.out.at_ 11
  have b_12 := HB.out.at_ 12
  have b_13 := HB.out.at_ 13
  have b_14 := HB.out.at_ 14
  simp at b_0 b_1 b_2 b_3 b_4 b_5 b_6 b_7 b_8 b_9 b_10 b_11 b_12 b_13 b_14
  have l1 : g1 < W.heap.size := HB.out.here
  go_enter Tryz.func46, Tryz.ntmps46
  go_upto_region 1 with fail
  rw [← eW]
  clear eW
  try rw [eg1]
  clear eg1
  have lw : gw < W.heap.size := Nat.lt_of_lt_of_le lgw KW.out.1.size
  go_wp2_with fail
  refine (HA.out _ KW.out).mono ?_
  rintro e w1 ⟨rfl, hR⟩
  have HR := hid hR
  clear hR b_0 b_1 b_2 b_3 b_4 b_5 b_6 b_7 b_8 b_9 b_10 b_11 b_12 b_13 b_14 l1 lw
  go_wp2_with fail
  go_ret
  exact ⟨by first | rfl | trivial, HR.out⟩
theorem exec_c {X : Nat → Prop} {w : World} {gw : Nat} {G : PG} (o : Or) (hV : GV X w gw G) (hG : GOk G) (hXg : X gw) (hXw : ∀ b, X b → b < w.heap.size) (hoi : OrI o) (hoP : OrderP o) (hos : Sl w o.ao o.n o.f) (hok : (o.ao = none ∧ o.n = 0 ∧ o.c = 0) ∨ ∃ a, o.ao = some a) (hmC : G.P.C.length ≤ 1073741824)
    (HP : o.kd = 5 → ∀ v, Made w.heap.size w v → Calls Tryz.prog 83 #[.pointer (some ⟨gw, 0, none⟩), orV o] v fun e u => e = .returned (.tuple #[]) ∧ ∃ P', PushP o.id o.vx o.vy o.sp G.P P' ∧ GV X u gw ⟨G.tk, G.gx, G.gy, P'⟩ ∧ BuB (fun g => g = gw) v u) :
    Calls Tryz.prog 46 #[.pointer (some ⟨gw, 0, none⟩), orV o] w fun e v => ∃ er G', e = .returned (.int .i64 er) ∧ ExecP o G er G' ∧ GV X v gw G' ∧ BuB (fun g => g = gw) w v := by
  have lgw : gw < w.heap.size := WVar.here hV
  have lX : ∀ v, Made w.heap.size w v → ∀ b, X b → b < v.heap.size := fun v k b hb => Nat.lt_of_lt_of_le (hXw b hb) k.1.size
  have hk : o.kd = 1 ∨ o.kd = 2 ∨ o.kd = 3 ∨ o.kd = 4 ∨ o.kd = 5 ∨ o.kd = 6 := by
    rcases hoP with h | h | h | h | h
    · exact .inl h.1
    · have := h.1; omega
    · have := h.1; omega
    · have := h.1; omega
    · have := h.1; omega
  obtain ⟨kd, id, a, b, x, y, vx, vy, an, sp, de, ln, k, r, ao, n, c, f⟩ := o
  have hk : kd = 1 ∨ kd = 2 ∨ kd = 3 ∨ kd = 4 ∨ kd = 5 ∨ kd = 6 := hk
  rcases hk with rfl | rfl | rfl | rfl | rfl | rfl
  · refine (exec1 id a b x y vx vy an sp de ln k r ao n c w gw lgw (fun nn er u => ∃ P', AddBP (bodyOr ⟨1, id, a, b, x, y, vx, vy, an, sp, de, ln, k, r, ao, n, c, f⟩) G.P nn er P' ∧ GV X u gw ⟨G.tk, G.gx, G.gy, P'⟩ ∧ But (fun g => g = gw) w u) ?_).mono ?_
    · intro v k'
      refine (addB_g (bodyOr ⟨1, id, a, b, x, y, vx, vy, an, sp, de, ln, k, r, ao, n, c, f⟩) (WVar.kept hV k') hG hXg (lX v k') (Sl.kept hos k') hoi.body hok).mono ?_
      rintro e u ⟨nn, er, P', rfl, h1, h2, h3⟩
      exact ⟨nn, er, rfl, P', h1, h2, (Made.but k').then_ h3⟩
    · rintro e v ⟨nn, er, rfl, P', h1, h2, h3⟩
      exact ⟨er, ⟨G.tk, G.gx, G.gy, P'⟩, rfl, .inl ⟨rfl, nn, P', h1, rfl⟩, h2, h3.bub⟩
  · refine (exec2 id a b x y vx vy an sp de ln k r ao n c w gw lgw (fun gone u => ∃ P', RemBP id G.P gone P' ∧ GV X u gw ⟨G.tk, G.gx, G.gy, P'⟩ ∧ But (fun g => g = gw) w u) ?_).mono ?_
    · intro v k'
      refine (remB_g id (WVar.kept hV k') hG hXg (lX v k') hmC).mono ?_
      rintro e u ⟨gone, P', rfl, h1, h2, h3⟩
      exact ⟨gone, rfl, P', h1, h2, (Made.but k').then_ h3⟩
    · rintro e v ⟨rfl, gone, P', h1, h2, h3⟩
      exact ⟨0, ⟨G.tk, G.gx, G.gy, P'⟩, rfl, .inr (.inl ⟨rfl, rfl, gone, P', h1, rfl⟩), h2, h3.bub⟩
  · refine (exec3 id a b x y vx vy an sp de ln k r ao n c w gw lgw (fun nn er u => ∃ P', AddJP (jointOr ⟨3, id, a, b, x, y, vx, vy, an, sp, de, ln, k, r, ao, n, c, f⟩) G.P nn er P' ∧ GV X u gw ⟨G.tk, G.gx, G.gy, P'⟩ ∧ But (fun g => g = gw) w u) ?_).mono ?_
    · intro v k'
      refine (addJ_g (jointOr ⟨3, id, a, b, x, y, vx, vy, an, sp, de, ln, k, r, ao, n, c, f⟩) (WVar.kept hV k') hG hXg (lX v k') hoi.joint).mono ?_
      rintro e u ⟨nn, er, P', rfl, h1, h2, h3⟩
      exact ⟨nn, er, rfl, P', h1, h2, (Made.but k').then_ h3⟩
    · rintro e v ⟨nn, er, rfl, P', h1, h2, h3⟩
      exact ⟨er, ⟨G.tk, G.gx, G.gy, P'⟩, rfl, .inr (.inr (.inl ⟨rfl, nn, P', h1, rfl⟩)), h2, h3.bub⟩
  · refine (exec4 id a b x y vx vy an sp de ln k r ao n c w gw lgw (fun gone u => ∃ P', RemJP id G.P gone P' ∧ GV X u gw ⟨G.tk, G.gx, G.gy, P'⟩ ∧ But (fun g => g = gw) w u) ?_).mono ?_
    · intro v k'
      refine (remJ_g id (WVar.kept hV k') hG hXg (lX v k')).mono ?_
      rintro e u ⟨gone, P', rfl, h1, h2, h3⟩
      exact ⟨gone, rfl, P', h1, h2, (Made.but k').then_ h3⟩
    · rintro e v ⟨rfl, gone, P', h1, h2, h3⟩
      exact ⟨0, ⟨G.tk, G.gx, G.gy, P'⟩, rfl, .inr (.inr (.inr (.inl ⟨rfl, rfl, gone, P', h1, rfl⟩))), h2, h3.bub⟩
  · refine (exec5 id a b x y vx vy an sp de ln k r ao n c w gw lgw (fun u => ∃ P', PushP id vx vy sp G.P P' ∧ GV X u gw ⟨G.tk, G.gx, G.gy, P'⟩ ∧ BuB (fun g => g = gw) w u) (fun v k' => (HP rfl v k').mono fun e u ⟨h0, P', h1, h2, h3⟩ => ⟨h0, P', h1, h2, (Made.bub k').then_ h3⟩)).mono ?_
    rintro e v ⟨rfl, P', h1, h2, h3⟩
    exact ⟨0, ⟨G.tk, G.gx, G.gy, P'⟩, rfl, .inr (.inr (.inr (.inr (.inl ⟨rfl, rfl, P', h1, rfl⟩)))), h2, h3⟩
  · obtain ⟨ob, oj, oc, cb, cj, cc, hH, hL⟩ := hV
    refine (exec6 id a b x y vx vy an sp de ln k r ao n c w gw lgw hH).mono ?_
    rintro e v ⟨rfl, kb, hh⟩
    exact ⟨0, ⟨G.tk, vx, vy, G.P⟩, rfl, .inr (.inr (.inr (.inr (.inr ⟨rfl, rfl, rfl⟩)))), ⟨ob, oj, oc, cb, cj, cc, hh, hL.but kb (fun b hb => by have hb : b = gw := hb; rw [hb]; exact hXg)⟩, kb.bub⟩
set_option maxRecDepth 100000 in
set_option maxHeartbeats 16000000 in
theorem odo_x (kd id a b x y vx vy an sp de ln k r : Int) (ao : Option Addr) (n c : Nat) (w : World) (gw : Nat) (lgw : gw < w.heap.size) (R : Int → World → Prop) (HA : ∀ v, Made w.heap.size w v → Calls Tryz.prog 46 #[.pointer (some ⟨gw, 0, none⟩), .agg #[.int .i64 kd, .int .i64 id, .int .i64 a, .int .i64 b, .int .i64 x, .int .i64 y, .int .i64 vx, .int .i64 vy, .int .i64 an, .int .i64 sp, .int .i64 de, .int .i64 ln, .int .i64 k, .int .i64 r, .slice ao n c]] v fun e u => ∃ er, e = .returned (.int .i64 er) ∧ R er u) :
    Calls Tryz.prog 15 #[.pointer (some ⟨gw, 0, none⟩), .agg #[.int .i64 kd, .int .i64 id, .int .i64 a, .int .i64 b, .int .i64 x, .int .i64 y, .int .i64 vx, .int .i64 vy, .int .i64 an, .int .i64 sp, .int .i64 de, .int .i64 ln, .int .i64 k, .int .i64 r, .slice ao n c]] w fun e v => e = .returned (.tuple #[]) ∧ ∃ er, R er v := by
  have HA := hid HA
  obtain ⟨W, eW⟩ : ∃ W, W = w.alloc (.cells #[.int .i64 kd, .int .i64 id, .int .i64 a, .int .i64 b, .int .i64 x, .int .i64 y, .int .i64 vx, .int .i64 vy, .int .i64 an, .int .i64 sp, .int .i64 de, .int .i64 ln, .int .i64 k, .int .i64 r, .slice ao n c] 29) := ⟨_, rfl⟩
  have KW : Hid (Made w.heap.size w W) := by unfold Hid; rw [eW]; exact (Made.rfl_ _ _).cells (Nat.le_refl _) _ _
  have HB : Hid (Has W w.heap.size 29 #[.int .i64 kd, .int .i64 id, .int .i64 a, .int .i64 b, .int .i64 x, .int .i64 y, .int .i64 vx, .int .i64 vy, .int .i64 an, .int .i64 sp, .int .i64 de, .int .i64 ln, .int .i64 k, .int .i64 r, .slice ao n c]) := by unfold Hid; rw [eW]; exact has_new _ _ _
  obtain ⟨g1, eg1⟩ : ∃ g, w.heap.size = g := ⟨_, rfl⟩
  have HG1 := hid eg1
  rw [eg1] at HB
  have b_0 := HB.out.at_ 0
  have b_1 := HB.out.at_ 1
  have b_2 := HB.out.at_ 2
  have b_3 := HB.out.at_ 3
  have b_4 := HB.out.at_ 4
  have b_5 := HB.out.at_ 5
  have b_6 := HB.out.at_ 6
  have b_7 := HB.out.at_ 7
  have b_8 := HB.out.at_ 8
  have b_9 := HB.out.at_ 9
  have b_10 := HB.out.at_ 10
  have b_11 := HB.out.at_ 11
  have b_12 := HB.out.at_ 12
  have b_13 := HB.out.at_ 13
  have b_14 := HB.out.at_ 14
  simp at b_0 b_1 b_2 b_3 b_4 b_5 b_6 b_7 b_8 b_9 b_10 b_11 b_12 b_13 b_14
  have l1 : g1 < W.heap.size := HB.out.here
  go_enter Tryz.func15, Tryz.ntmps15
  go_upto_region 1 with fail
  rw [← eW]
  clear eW
  try rw [eg1]
  clear eg1
  have lw : gw < W.heap.size := Nat.lt_of_lt_of_le lgw KW.out.1.size
  go_wp2_with fail
  refine (HA.out _ KW.out).mono ?_
  rintro e w1 ⟨er, rfl, hR⟩
  have HR := hid hR
  clear hR b_0 b_1 b_2 b_3 b_4 b_5 b_6 b_7 b_8 b_9 b_10 b_11 b_12 b_13 b_14 l1 lw
  go_wp2_with fail
  first | refine void_end rfl rfl ?_ | refine void_ret rfl rfl ?_
  exact ⟨rfl, er, HR.out⟩
theorem odo_c {X : Nat → Prop} {w : World} {gw : Nat} {G : PG} (o : Or) (hV : GV X w gw G) (hG : GOk G) (hXg : X gw) (hXw : ∀ b, X b → b < w.heap.size) (hoi : OrI o) (hoP : OrderP o) (hos : Sl w o.ao o.n o.f) (hok : (o.ao = none ∧ o.n = 0 ∧ o.c = 0) ∨ ∃ a, o.ao = some a) (hmC : G.P.C.length ≤ 1073741824)
    (HP : o.kd = 5 → ∀ v, Made w.heap.size w v → Calls Tryz.prog 83 #[.pointer (some ⟨gw, 0, none⟩), orV o] v fun e u => e = .returned (.tuple #[]) ∧ ∃ P', PushP o.id o.vx o.vy o.sp G.P P' ∧ GV X u gw ⟨G.tk, G.gx, G.gy, P'⟩ ∧ BuB (fun g => g = gw) v u) :
    Calls Tryz.prog 15 #[.pointer (some ⟨gw, 0, none⟩), orV o] w fun e v => e = .returned (.tuple #[]) ∧ ∃ er G', ExecP o G er G' ∧ GV X v gw G' ∧ BuB (fun g => g = gw) w v := by
  refine (odo_x o.kd o.id o.a o.b o.x o.y o.vx o.vy o.an o.sp o.de o.ln o.k o.r o.ao o.n o.c w gw (WVar.here hV) (fun er u => ∃ G', ExecP o G er G' ∧ GV X u gw G' ∧ BuB (fun g => g = gw) w u) ?_).mono ?_
  · intro v k
    refine (exec_c o (WVar.kept hV k) hG hXg (fun b hb => Nat.lt_of_lt_of_le (hXw b hb) k.1.size) hoi hoP (Sl.kept hos k) hok hmC (fun h5 u ku => ?_)).mono ?_
    · refine (HP h5 u (k.then_ (ku.low k.1.size))).mono ?_
      exact fun e z h => h
    · rintro e u ⟨er, G', rfl, h1, h2, h3⟩
      exact ⟨er, rfl, G', h1, h2, (Made.bub k).then_ h3⟩
  · rintro e v ⟨rfl, er, G', h1, h2, h3⟩
    exact ⟨rfl, er, G', h1, h2, h3⟩
end Go.Proofs.YtfncelifflebbaaGreat.Fx

