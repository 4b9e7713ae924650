/- WsB WlM Mid ShapeG -/
import Derived.Test.YtgdcphmmehedoaaGreatCc2
import Derived.Test.YtgdcphmmehedoaaGreatCc3
import Derived.Test.YtgdcphmmehedoaaGreatCc10
import Derived.Test.YtgdcphmmehedoaaGreatCc14
import Derived.Deep.DeepCutAuto
import Derived.Deep.CutBlock
set_option maxRecDepth 100000
set_option maxHeartbeats 64000000
/- world.Same. -/
namespace Go.Proofs.YtgdcphmmehedoaaGreat.Fx
open Go.ChangeShapes Go.WideShapes Go.ChangeAt Go.RowKit
set_option linter.unusedVariables false
def EqB (b b' : Bd) : Prop := b.id = b'.id ∧ (b.x = b'.x ∧ b.y = b'.y) ∧ (b.vx = b'.vx ∧ b.vy = b'.vy) ∧ b.an = b'.an ∧ b.sp = b'.sp ∧ b.de = b'.de ∧ b.k = b'.k ∧ b.r = b'.r ∧ b.n = b'.n ∧ ∀ i, i < b.n → b.f i = b'.f i
theorem sameBody_c (q : Bool) (b b' : Bd) {w : World} (hmx : b.n ≤ 1073741824) (hl : Sl w b.ao b.n b.f) (hl' : Sl w b'.ao b'.n b'.f) (hr : q = true ↔ EqB b b') :
  Calls Tryz.prog 56 #[bdV b, bdV b'] w fun e v => e = .returned (.bool q) ∧ Made w.heap.size w v := by
 obtain ⟨id, x, y, vx, vy, an, sp, de, k, r, ao, n, c, f⟩ := b
 obtain ⟨id', x', y', vx', vy', an', sp', de', k', r', bo, n', c', g⟩ := b'
 simp only [EqB] at hr
 simp only [] at hmx hl hl'
 have HL : Hid (∀ v, Made w.heap.size w v → Sl v ao n f) := fun v k hn => by obtain ⟨b, off, e, hp⟩ := hl hn; exact ⟨b, off, e, hp.kept k⟩
 have HM : Hid (∀ v, Made w.heap.size w v → Sl v bo n' g) := fun v k hn => by obtain ⟨b, off, e, hp⟩ := hl' hn; exact ⟨b, off, e, hp.kept k⟩
 have HR := hid hr
 clear hl hl' hr
 obtain ⟨W, eW⟩ : ∃ W, W = (w.alloc (.cells #[.int .i64 id, .int .i64 x, .int .i64 y, .int .i64 vx, .int .i64 vy, .int .i64 an, .int .i64 sp, .int .i64 de, .int .i64 k, .int .i64 r, .slice ao n c] 35)).alloc (.cells #[.int .i64 id', .int .i64 x', .int .i64 y', .int .i64 vx', .int .i64 vy', .int .i64 an', .int .i64 sp', .int .i64 de', .int .i64 k', .int .i64 r', .slice bo n' c'] 35) := ⟨_, rfl⟩
 have KW : Hid (Made w.heap.size w W) := by unfold Hid; rw [eW]; exact ((Made.rfl_ _ _).cells (Nat.le_refl _) _ _).cells (by simp) _ _
 have HA : Hid (Has W w.heap.size 35 #[.int .i64 id, .int .i64 x, .int .i64 y, .int .i64 vx, .int .i64 vy, .int .i64 an, .int .i64 sp, .int .i64 de, .int .i64 k, .int .i64 r, .slice ao n c]) := by unfold Hid; rw [eW]; exact (has_new _ _ _).more _
 have HB : Hid (Has W (w.heap.size + 1) 35 #[.int .i64 id', .int .i64 x', .int .i64 y', .int .i64 vx', .int .i64 vy', .int .i64 an', .int .i64 sp', .int .i64 de', .int .i64 k', .int .i64 r', .slice bo n' c']) := by unfold Hid; rw [eW]; exact has_nxt' _ _ _ _
 obtain ⟨g0, eg0⟩ : ∃ g, w.heap.size = g := ⟨_, rfl⟩
 obtain ⟨g1, eg1⟩ : ∃ g, g0 + 1 = g := ⟨_, rfl⟩
 rw [eg0] at HA
 rw [eg0, eg1] at HB
 have a0 := HA.out.at_ 0
 have a1 := HA.out.at_ 1
 have a2 := HA.out.at_ 2
 have a3 := HA.out.at_ 3
 have a4 := HA.out.at_ 4
 have a5 := HA.out.at_ 5
 have a6 := HA.out.at_ 6
 have a7 := HA.out.at_ 7
 have a8 := HA.out.at_ 8
 have a9 := HA.out.at_ 9
 have a10 := HA.out.at_ 10
 simp at a0 a1 a2 a3 a4 a5 a6 a7 a8 a9 a10
 have b0 := HB.out.at_ 0
 have b1 := HB.out.at_ 1
 have b2 := HB.out.at_ 2
 have b3 := HB.out.at_ 3
 have b4 := HB.out.at_ 4
 have b5 := HB.out.at_ 5
 have b6 := HB.out.at_ 6
 have b7 := HB.out.at_ 7
 have b8 := HB.out.at_ 8
 have b9 := HB.out.at_ 9
 have b10 := HB.out.at_ 10
 simp at b0 b1 b2 b3 b4 b5 b6 b7 b8 b9 b10
 have l0 : g0 < W.heap.size := HA.out.here
 have l1 : g1 < W.heap.size := HB.out.here
 go_enter Tryz.func56, Tryz.ntmps56
 go_upto_region 1 with fail
 rw [← eW]
 clear eW
 try rw [eg0]
 try rw [eg1]
 by_cases h0 : id = id'
 case neg =>
  have e : q = false := Bool.eq_false_iff.2 fun h => h0 (HR.out.1 h).1
  have q_id : (id == id') = false := by simpa using (show ¬ id = id' from h0)
  subst e
  clear h0
  go_wp2_with fail
  go_ret
  exact ⟨by first | rfl | trivial, by first | exact KW.out | exact eg0 ▸ KW.out⟩
 have q_id : (id == id') = true := by simpa using (show id = id' from h0)
 by_cases h1 : x = x' ∧ y = y'
 case neg =>
  have e : q = false := Bool.eq_false_iff.2 fun h => h1 (HR.out.1 h).2.1
  have q_x := veql x y x' y' false (iff_of_false (by simp) h1)
  subst e
  clear h1 h0
  go_wp2_with fail
  go_ret
  exact ⟨by first | rfl | trivial, by first | exact KW.out | exact eg0 ▸ KW.out⟩
 have q_x := veql x y x' y' true (iff_of_true rfl h1)
 by_cases h2 : vx = vx' ∧ vy = vy'
 case neg =>
  have e : q = false := Bool.eq_false_iff.2 fun h => h2 (HR.out.1 h).2.2.1
  have q_vx := veql vx vy vx' vy' false (iff_of_false (by simp) h2)
  subst e
  clear h2 h0 h1
  go_wp2_with fail
  go_ret
  exact ⟨by first | rfl | trivial, by first | exact KW.out | exact eg0 ▸ KW.out⟩
 have q_vx := veql vx vy vx' vy' true (iff_of_true rfl h2)
 by_cases h3 : an = an'
 case neg =>
  have e : q = false := Bool.eq_false_iff.2 fun h => h3 (HR.out.1 h).2.2.2.1
  have q_an : (an == an') = false := by simpa using (show ¬ an = an' from h3)
  subst e
  clear h3 h0 h1 h2
  go_wp2_with fail
  go_ret
  exact ⟨by first | rfl | trivial, by first | exact KW.out | exact eg0 ▸ KW.out⟩
 have q_an : (an == an') = true := by simpa using (show an = an' from h3)
 by_cases h4 : sp = sp'
 case neg =>
  have e : q = false := Bool.eq_false_iff.2 fun h => h4 (HR.out.1 h).2.2.2.2.1
  have q_sp : (sp == sp') = false := by simpa using (show ¬ sp = sp' from h4)
  subst e
  clear h4 h0 h1 h2 h3
  go_wp2_with fail
  go_ret
  exact ⟨by first | rfl | trivial, by first | exact KW.out | exact eg0 ▸ KW.out⟩
 have q_sp : (sp == sp') = true := by simpa using (show sp = sp' from h4)
 by_cases h5 : de = de'
 case neg =>
  have e : q = false := Bool.eq_false_iff.2 fun h => h5 (HR.out.1 h).2.2.2.2.2.1
  have q_de : (de == de') = false := by simpa using (show ¬ de = de' from h5)
  subst e
  clear h5 h0 h1 h2 h3 h4
  go_wp2_with fail
  go_ret
  exact ⟨by first | rfl | trivial, by first | exact KW.out | exact eg0 ▸ KW.out⟩
 have q_de : (de == de') = true := by simpa using (show de = de' from h5)
 have HC := hid (shapeSame_c (c := c) (c' := c') q k r k' r' hmx (HL.out _ KW.out) (HM.out _ KW.out) (by rw [HR.out]; simp [h0, h1, h2, h3, h4, h5]))
 clear h0 h1 h2 h3 h4 h5
 go_wp2_with fail
 refine HC.out.mono ?_
 rintro e w1 ⟨rfl, k1⟩
 have K1 := hid (KW.out.then_ (k1.low KW.out.1.size))
 clear k1 a0 a1 a2 a3 a4 a5 a6 a7 a8 a9 a10 b0 b1 b2 b3 b4 b5 b6 b7 b8 b9 b10 l0 l1
 go_wp2_with fail
 go_ret
 exact ⟨by first | rfl | trivial, by first | exact K1.out | exact eg0 ▸ K1.out⟩
theorem eqf_c (g : Nat) (eg : ∀ args w, (callFunc g args).run Tryz.prog w = .ok (.enter g args) w) (p : Bd → Bd → Bool) (r : Bool) {l m : List Bd} {ao bo : Option Addr} {n c n' c' : Nat} {w : World} (hn : l.length = n) (hm : m.length = n') (hmx : n ≤ 1073741824) (hl : LsT encB 11 w ao l) (hl' : LsT encB 11 w bo m)
  (hS : ∀ x y u, x ∈ l → y ∈ m → Made w.heap.size w u → Calls Tryz.prog g #[bdV x, bdV y] u fun e v => e = .returned (.bool (p x y)) ∧ Made u.heap.size u v)
  (hr : r = true ↔ n = n' ∧ ∀ (i : Nat) x y, l[i]? = some x → m[i]? = some y → p x y = true) :
  Calls Tryz.prog 55 #[.slice ao n c, .slice bo n' c', .func (.func g) #[] #[]] w fun e v => e = .returned (.bool r) ∧ Made w.heap.size w v := by
 have HN := hid (And.intro hn hm)
 have HL := hid (fun v (k : Made w.heap.size w v) => hl.kept k)
 have HM := hid (fun v (k : Made w.heap.size w v) => hl'.kept k)
 have HS := hid hS
 have HR := hid hr
 clear hn hm hl hl' hr hS
 by_cases hnn : n = n'
 case neg =>
  have e : r = false := Bool.eq_false_iff.2 fun h => hnn (HR.out.1 h).1
  have gg : ((n : Int) != (n' : Int)) = true := by simp; omega
  subst e
  clear hnn
  go_enter Tryz.func55, Tryz.ntmps55
  go_wp2_with fail
  go_ret
  exact ⟨rfl, Made.rfl_ _ _⟩
 subst hnn
 go_enter Tryz.func55, Tryz.ntmps55
 go_wp2_with fail
 go_loopg [7, 8, 9, 17] n (fun gg s7 s8 s9 s17 wx => ∃ k : Nat, k + gg = n ∧ s17 = .int .i64 (k : Nat) ∧ Hid (Made w.heap.size w wx ∧ ∀ i x y, i < k → l[i]? = some x → m[i]? = some y → p x y = true))
 case atStart => exact ⟨0, by omega, rfl, Made.rfl_ _ _, fun i x y hi => absurd hi (Nat.not_lt_zero _)⟩
 case round =>
  obtain ⟨k, hk, rfl, HB⟩ := hrel
  by_cases hlt : k < n
  ·obtain ⟨x, ex⟩ : ∃ a, l[k]? = some a := ⟨_, List.getElem?_eq_getElem (by rw [HN.out.1]; exact hlt)⟩
   obtain ⟨y, ey⟩ : ∃ a, m[k]? = some a := ⟨_, List.getElem?_eq_getElem (by rw [HN.out.2]; exact hlt)⟩
   obtain ⟨bx, ox, rfl, hbx, hLx⟩ := (HL.out _ HB.out.1) (by rw [HN.out.1]; omega)
   have px := (hLx k _ ex).b11
   have HC := hid (fun u ku => HS.out x y u (List.mem_of_getElem? ex) (List.mem_of_getElem? ey) ku)
   obtain ⟨q, eq⟩ : ∃ q, p x y = q := ⟨_, rfl⟩
   rw [eq] at HC
   have EX := hid ex
   have EY := hid ey
   have EQ := hid eq
   clear ex hLx eq
   obtain ⟨x0, x1, x2, x3, x4, x5, x6, x7, x8, x9, x10, x11, x12, xf⟩ := x
   obtain ⟨p0, p1, p2, p3, p4, p5, p6, p7, p8, p9, p10⟩ := px
   simp only [] at p0 p1 p2 p3 p4 p5 p6 p7 p8 p9 p10
   obtain ⟨W5, eW5⟩ : ∃ V, V = wr.alloc (.cells #[.int .i64 x0, .int .i64 x1, .int .i64 x2, .int .i64 x3, .int .i64 x4, .int .i64 x5, .int .i64 x6, .int .i64 x7, .int .i64 x8, .int .i64 x9, .slice x10 x11 x12] 35) := ⟨_, rfl⟩
   have kk5 : Made wr.heap.size wr W5 := by rw [eW5]; exact (Made.rfl_ _ _).cells (Nat.le_refl _) _ _
   have HX5 : Hid (Has W5 wr.heap.size 35 #[.int .i64 x0, .int .i64 x1, .int .i64 x2, .int .i64 x3, .int .i64 x4, .int .i64 x5, .int .i64 x6, .int .i64 x7, .int .i64 x8, .int .i64 x9, .slice x10 x11 x12]) := by unfold Hid; rw [eW5]; exact has_new _ _ _
   have K5 := hid (HB.out.1.then_ (kk5.low HB.out.1.1.size))
   obtain ⟨gx, egx⟩ : ∃ g, wr.heap.size = g := ⟨_, rfl⟩
   rw [egx] at HX5
   clear kk5
   go_upto_region 6 with fail
   rw [← eW5]
   clear eW5 p0 p1 p2 p3 p4 p5 p6 p7 p8 p9 p10 hbx
   try rw [egx]
   clear egx
   obtain ⟨by', oy, rfl, hby, hLy⟩ := (HM.out _ K5.out) (by rw [HN.out.2]; omega)
   have py := (hLy k _ ey).b11
   clear ey hLy
   obtain ⟨y0, y1, y2, y3, y4, y5, y6, y7, y8, y9, y10, y11, y12, yf⟩ := y
   obtain ⟨q0, q1, q2, q3, q4, q5, q6, q7, q8, q9, q10⟩ := py
   simp only [] at q0 q1 q2 q3 q4 q5 q6 q7 q8 q9 q10
   obtain ⟨W6, eW6⟩ : ∃ V, V = W5.alloc (.cells #[.int .i64 y0, .int .i64 y1, .int .i64 y2, .int .i64 y3, .int .i64 y4, .int .i64 y5, .int .i64 y6, .int .i64 y7, .int .i64 y8, .int .i64 y9, .slice y10 y11 y12] 35) := ⟨_, rfl⟩
   have kk6 : Made W5.heap.size W5 W6 := by rw [eW6]; exact (Made.rfl_ _ _).cells (Nat.le_refl _) _ _
   have HY6 : Hid (Has W6 W5.heap.size 35 #[.int .i64 y0, .int .i64 y1, .int .i64 y2, .int .i64 y3, .int .i64 y4, .int .i64 y5, .int .i64 y6, .int .i64 y7, .int .i64 y8, .int .i64 y9, .slice y10 y11 y12]) := by unfold Hid; rw [eW6]; exact has_new _ _ _
   have HX6 := hid (HX5.out.stays kk6 HX5.out.here)
   have K6 := hid (K5.out.then_ (kk6.low K5.out.1.size))
   obtain ⟨gy, egy⟩ : ∃ g, W5.heap.size = g := ⟨_, rfl⟩
   rw [egy] at HY6
   clear kk6
   go_upto_region 7 with fail
   rw [← eW6]
   clear eW6 q0 q1 q2 q3 q4 q5 q6 q7 q8 q9 q10 hby HX5
   try rw [egy]
   clear egy
   have p0 := HX6.out.at_ 0
   have p1 := HX6.out.at_ 1
   have p2 := HX6.out.at_ 2
   have p3 := HX6.out.at_ 3
   have p4 := HX6.out.at_ 4
   have p5 := HX6.out.at_ 5
   have p6 := HX6.out.at_ 6
   have p7 := HX6.out.at_ 7
   have p8 := HX6.out.at_ 8
   have p9 := HX6.out.at_ 9
   have p10 := HX6.out.at_ 10
   simp at p0 p1 p2 p3 p4 p5 p6 p7 p8 p9 p10
   have lx : gx < W6.heap.size := HX6.out.here
   have q0 := HY6.out.at_ 0
   have q1 := HY6.out.at_ 1
   have q2 := HY6.out.at_ 2
   have q3 := HY6.out.at_ 3
   have q4 := HY6.out.at_ 4
   have q5 := HY6.out.at_ 5
   have q6 := HY6.out.at_ 6
   have q7 := HY6.out.at_ 7
   have q8 := HY6.out.at_ 8
   have q9 := HY6.out.at_ 9
   have q10 := HY6.out.at_ 10
   simp at q0 q1 q2 q3 q4 q5 q6 q7 q8 q9 q10
   have ly : gy < W6.heap.size := HY6.out.here
   have hcall := HC.out _ K6.out
   cases q with
   | false =>
    have e : r = false := Bool.eq_false_iff.2 fun h => by
     have h1 := (HR.out.1 h).2 k _ _ EX.out EY.out
     have h2 := EQ.out
     rw [h1] at h2
     cases h2
    subst e
    go_wp2_with (go_at_fn g; refine hcall.mono ?_; rintro e w' ⟨rfl, k1⟩; have K7 := hid (K6.out.then_ (k1.low K6.out.1.size)); clear k1)
    go_ret
    exact ⟨rfl, K7.out⟩
   | true =>
    go_wp2_with (go_at_fn g; refine hcall.mono ?_; rintro e w' ⟨rfl, k1⟩; have K7 := hid (K6.out.then_ (k1.low K6.out.1.size)); clear k1)
    go_roundg (n - (k + 1))
    case measure => omega
    case rel =>
     refine ⟨k + 1, by omega, by go_num, K7.out, fun i a b hi ha hb => ?_⟩
     rcases Nat.lt_or_ge i k with h | h
     ·exact HB.out.2 i a b h ha hb
     ·have e : i = k := by omega
      rw [e, EX.out] at ha
      rw [e, EY.out] at hb
      cases ha; cases hb
      exact EQ.out
  ·have ek : k = n := by omega
   subst ek
   have h2 : ∀ (i : Nat) x y, l[i]? = some x → m[i]? = some y → p x y = true := fun i x y hx hy => HB.out.2 i x y (by have := (List.getElem?_eq_some_iff.1 hx).1; have := HN.out.1; omega) hx hy
   have e : r = true := HR.out.2 (by first | exact ⟨rfl, h2⟩ | exact ⟨trivial, h2⟩)
   clear h2
   subst e
   go_wp2_with fail
   go_ret
   exact ⟨rfl, HB.out.1⟩
def EqBs (B B' : List Bd) : Prop := B.length = B'.length ∧ ∀ (i : Nat) x y, B[i]? = some x → B'[i]? = some y → EqB x y
theorem wsame_c (q : Bool) (tk nb nj gx gy tk' nb' nj' gx' gy' : Int) (ob oj oc ob' oj' oc' : Option Addr) (nB cb nJ cj nC cc nB' cb' nJ' cj' nC' cc' : Nat) {B B' : List Bd} {J J' : List Jt} {C C' : List Ct} {w : World} (hW : WdAt w ob B oj J oc C) (hW' : WdAt w ob' B' oj' J' oc' C')
  (hn : B.length = nB ∧ J.length = nJ ∧ C.length = nC) (hn' : B'.length = nB' ∧ J'.length = nJ' ∧ C'.length = nC') (hmx : nB ≤ 1073741824 ∧ nJ ≤ 1073741824 ∧ nC ≤ 1073741824) (h8 : ∀ b ∈ B, b.n ≤ 1073741824)
  (hr : q = true ↔ tk = tk' ∧ nb = nb' ∧ nj = nj' ∧ (gx = gx' ∧ gy = gy') ∧ EqBs B B' ∧ J = J' ∧ C = C') :
  Calls Tryz.prog 18 #[wdV tk nb nj gx gy (.slice ob nB cb) (.slice oj nJ cj) (.slice oc nC cc), wdV tk' nb' nj' gx' gy' (.slice ob' nB' cb') (.slice oj' nJ' cj') (.slice oc' nC' cc')] w fun e v => e = .returned (.bool q) ∧ Made w.heap.size w v := by
 have HWa := hid (fun v (k : Made w.heap.size w v) => hW.kept k)
 have HWb := hid (fun v (k : Made w.heap.size w v) => hW'.kept k)
 have HN := hid (And.intro hn hn')
 have HMx := hid hmx
 have H8 := hid h8
 have HR := hid hr
 clear hW hW' hn hn' hmx h8 hr
 obtain ⟨W, eW⟩ : ∃ W, W = (w.alloc (.cells #[.int .i64 tk, .int .i64 nb, .int .i64 nj, .int .i64 gx, .int .i64 gy, .slice ob nB cb, .slice oj nJ cj, .slice oc nC cc] 56)).alloc (.cells #[.int .i64 tk', .int .i64 nb', .int .i64 nj', .int .i64 gx', .int .i64 gy', .slice ob' nB' cb', .slice oj' nJ' cj', .slice oc' nC' cc'] 56) := ⟨_, rfl⟩
 have KW : Hid (Made w.heap.size w W) := by unfold Hid; rw [eW]; exact ((Made.rfl_ _ _).cells (Nat.le_refl _) _ _).cells (by simp) _ _
 have HA : Hid (Has W w.heap.size 56 #[.int .i64 tk, .int .i64 nb, .int .i64 nj, .int .i64 gx, .int .i64 gy, .slice ob nB cb, .slice oj nJ cj, .slice oc nC cc]) := by unfold Hid; rw [eW]; exact (has_new _ _ _).more _
 have HB : Hid (Has W (w.heap.size + 1) 56 #[.int .i64 tk', .int .i64 nb', .int .i64 nj', .int .i64 gx', .int .i64 gy', .slice ob' nB' cb', .slice oj' nJ' cj', .slice oc' nC' cc']) := by unfold Hid; rw [eW]; exact has_nxt' _ _ _ _
 obtain ⟨g0, eg0⟩ : ∃ g, w.heap.size = g := ⟨_, rfl⟩
 obtain ⟨g1, eg1⟩ : ∃ g, g0 + 1 = g := ⟨_, rfl⟩
 rw [eg0] at HA
 rw [eg0, eg1] at HB
 have a0 := HA.out.at_ 0
 have a1 := HA.out.at_ 1
 have a2 := HA.out.at_ 2
 have a3 := HA.out.at_ 3
 have a4 := HA.out.at_ 4
 have a5 := HA.out.at_ 5
 have a6 := HA.out.at_ 6
 have a7 := HA.out.at_ 7
 simp at a0 a1 a2 a3 a4 a5 a6 a7
 have b0 := HB.out.at_ 0
 have b1 := HB.out.at_ 1
 have b2 := HB.out.at_ 2
 have b3 := HB.out.at_ 3
 have b4 := HB.out.at_ 4
 have b5 := HB.out.at_ 5
 have b6 := HB.out.at_ 6
 have b7 := HB.out.at_ 7
 simp at b0 b1 b2 b3 b4 b5 b6 b7
 have l0 : g0 < W.heap.size := HA.out.here
 have l1 : g1 < W.heap.size := HB.out.here
 go_enter Tryz.func18, Tryz.ntmps18
 go_upto_region 1 with fail
 rw [← eW]
 clear eW
 try rw [eg0]
 try rw [eg1]
 by_cases h0 : tk = tk'
 case neg =>
  have e : q = false := Bool.eq_false_iff.2 fun h => h0 (HR.out.1 h).1
  have q_tk : (tk == tk') = false := by simpa using (show ¬ tk = tk' from h0)
  subst e
  clear h0
  go_wp2_with fail
  go_ret
  exact ⟨by first | rfl | trivial, by first | exact KW.out | exact eg0 ▸ KW.out⟩
 have q_tk : (tk == tk') = true := by simpa using (show tk = tk' from h0)
 by_cases h1 : nb = nb'
 case neg =>
  have e : q = false := Bool.eq_false_iff.2 fun h => h1 (HR.out.1 h).2.1
  have q_nb : (nb == nb') = false := by simpa using (show ¬ nb = nb' from h1)
  subst e
  clear h1 h0
  go_wp2_with fail
  go_ret
  exact ⟨by first | rfl | trivial, by first | exact KW.out | exact eg0 ▸ KW.out⟩
 have q_nb : (nb == nb') = true := by simpa using (show nb = nb' from h1)
 by_cases h2 : nj = nj'
 case neg =>
  have e : q = false := Bool.eq_false_iff.2 fun h => h2 (HR.out.1 h).2.2.1
  have q_nj : (nj == nj') = false := by simpa using (show ¬ nj = nj' from h2)
  subst e
  clear h2 h0 h1
  go_wp2_with fail
  go_ret
  exact ⟨by first | rfl | trivial, by first | exact KW.out | exact eg0 ▸ KW.out⟩
 have q_nj : (nj == nj') = true := by simpa using (show nj = nj' from h2)
 by_cases h3 : gx = gx' ∧ gy = gy'
 case neg =>
  have e : q = false := Bool.eq_false_iff.2 fun h => h3 (HR.out.1 h).2.2.2.1
  have q_g := veql gx gy gx' gy' false (iff_of_false (by simp) h3)
  subst e
  clear h3 h0 h1 h2
  go_wp2_with fail
  go_ret
  exact ⟨by first | rfl | trivial, by first | exact KW.out | exact eg0 ▸ KW.out⟩
 have q_g := veql gx gy gx' gy' true (iff_of_true rfl h3)
 have HR2 : Hid (q = true ↔ EqBs B B' ∧ J = J' ∧ C = C') := by unfold Hid; rw [HR.out]; simp [h0, h1, h2, h3]
 clear h0 h1 h2 h3 HR
 obtain ⟨c1, hc1⟩ := a_bool (EqBs B B')
 obtain ⟨c2, hc2⟩ := a_bool (J = J')
 obtain ⟨c3, hc3⟩ := a_bool (C = C')
 have hdec : ∀ x y : Bd, ∃ t : Bool, t = true ↔ EqB x y := fun x y => a_bool _
 let p : Bd → Bd → Bool := fun x y => Classical.choose (hdec x y)
 have hp : ∀ x y, p x y = true ↔ EqB x y := fun x y => Classical.choose_spec (hdec x y)
 obtain ⟨p', ep⟩ : ∃ p', p' = p := ⟨_, rfl⟩
 rw [← ep] at hp
 clear ep
 clear p
 have HC1 := hid (fun v (k : Made w.heap.size w v) => eqf_c 56 (by intro args w; rfl) p' c1 (c := cb) (c' := cb') HN.out.1.1 HN.out.2.1 HMx.out.1 (HWa.out v k).lB (HWb.out v k).lB
  (fun x y u hx hy ku => sameBody_c (p' x y) x y (H8.out x hx) ((HWa.out u (k.then_ (ku.low k.1.size))).sB x hx).1 ((HWb.out u (k.then_ (ku.low k.1.size))).sB y hy).1 (hp x y))
  (by rw [hc1]; unfold EqBs; rw [HN.out.1.1, HN.out.2.1]; constructor <;> rintro ⟨e1, e2⟩ <;> refine ⟨e1, fun i x y hx hy => ?_⟩ <;> have := e2 i x y hx hy <;> simpa [hp] using this))
 have HC2 := hid (fun v (k : Made w.heap.size w v) => equalJ_c c2 (c := cj) (c' := cj') HN.out.1.2.1 HN.out.2.2.1 HMx.out.2.1 (HWa.out v k).lJ (HWb.out v k).lJ hc2)
 have HC3 := hid (fun v (k : Made w.heap.size w v) => equalC_c c3 (c := cc) (c' := cc') HN.out.1.2.2 HN.out.2.2.2 HMx.out.2.2 (HWa.out v k).lC (HWb.out v k).lC hc3)
 have HQ : Hid (q = true ↔ c1 = true ∧ c2 = true ∧ c3 = true) := by unfold Hid; rw [HR2.out, hc1, hc2, hc3]
 clear HR2 hc1 hc2 hc3 hp hdec
 have HD1 := hid (HC1.out _ KW.out)
 cases c1 with
 | false =>
  have e : q = false := Bool.eq_false_iff.2 fun h => by have := HQ.out.1 h; simp at this
  subst e
  go_wp2_with fail
  refine HD1.out.mono ?_
  rintro e w1 ⟨rfl, k1⟩
  have K1 := hid (KW.out.then_ (k1.low KW.out.1.size))
  clear k1 a0 a1 a2 a3 a4 a5 a6 a7 b0 b1 b2 b3 b4 b5 b6 b7 l0 l1
  go_wp2_with fail
  go_ret
  exact ⟨by first | rfl | trivial, by first | exact K1.out | exact eg0 ▸ K1.out⟩
 | true =>
  go_wp2_with fail
  refine HD1.out.mono ?_
  rintro e w1 ⟨rfl, k1⟩
  have K1 := hid (KW.out.then_ (k1.low KW.out.1.size))
  have HA1 := hid (HA.out.stays k1 HA.out.here)
  have HB1 := hid (HB.out.stays k1 HB.out.here)
  clear k1 a0 a1 a2 a3 a4 a5 a6 a7 b0 b1 b2 b3 b4 b5 b6 b7 l0 l1 HA HB
  have a0 := HA1.out.at_ 0
  have a1 := HA1.out.at_ 1
  have a2 := HA1.out.at_ 2
  have a3 := HA1.out.at_ 3
  have a4 := HA1.out.at_ 4
  have a5 := HA1.out.at_ 5
  have a6 := HA1.out.at_ 6
  have a7 := HA1.out.at_ 7
  simp at a0 a1 a2 a3 a4 a5 a6 a7
  have b0 := HB1.out.at_ 0
  have b1 := HB1.out.at_ 1
  have b2 := HB1.out.at_ 2
  have b3 := HB1.out.at_ 3
  have b4 := HB1.out.at_ 4
  have b5 := HB1.out.at_ 5
  have b6 := HB1.out.at_ 6
  have b7 := HB1.out.at_ 7
  simp at b0 b1 b2 b3 b4 b5 b6 b7
  have l0 : g0 < w1.heap.size := HA1.out.here
  have l1 : g1 < w1.heap.size := HB1.out.here
  have HD2 := hid (HC2.out _ K1.out)
  cases c2 with
  | false =>
   have e : q = false := Bool.eq_false_iff.2 fun h => by have := HQ.out.1 h; simp at this
   subst e
   go_wp2_with fail
   refine HD2.out.mono ?_
   rintro e w2 ⟨rfl, k1⟩
   have K2 := hid (K1.out.then_ (k1.low K1.out.1.size))
   clear k1 a0 a1 a2 a3 a4 a5 a6 a7 b0 b1 b2 b3 b4 b5 b6 b7 l0 l1
   go_wp2_with fail
   go_ret
   exact ⟨by first | rfl | trivial, by first | exact K2.out | exact eg0 ▸ K2.out⟩
  | true =>
   go_wp2_with fail
   refine HD2.out.mono ?_
   rintro e w2 ⟨rfl, k1⟩
   have K2 := hid (K1.out.then_ (k1.low K1.out.1.size))
   have HA2 := hid (HA1.out.stays k1 HA1.out.here)
   have HB2 := hid (HB1.out.stays k1 HB1.out.here)
   clear k1 a0 a1 a2 a3 a4 a5 a6 a7 b0 b1 b2 b3 b4 b5 b6 b7 l0 l1 HA1 HB1
   have a0 := HA2.out.at_ 0
   have a1 := HA2.out.at_ 1
   have a2 := HA2.out.at_ 2
   have a3 := HA2.out.at_ 3
   have a4 := HA2.out.at_ 4
   have a5 := HA2.out.at_ 5
   have a6 := HA2.out.at_ 6
   have a7 := HA2.out.at_ 7
   simp at a0 a1 a2 a3 a4 a5 a6 a7
   have b0 := HB2.out.at_ 0
   have b1 := HB2.out.at_ 1
   have b2 := HB2.out.at_ 2
   have b3 := HB2.out.at_ 3
   have b4 := HB2.out.at_ 4
   have b5 := HB2.out.at_ 5
   have b6 := HB2.out.at_ 6
   have b7 := HB2.out.at_ 7
   simp at b0 b1 b2 b3 b4 b5 b6 b7
   have l0 : g0 < w2.heap.size := HA2.out.here
   have l1 : g1 < w2.heap.size := HB2.out.here
   have HD3 := hid (HC3.out _ K2.out)
   have e : q = c3 := by
    have h := HQ.out
    cases q <;> cases c3 <;> simp at h ⊢
   subst e
   go_wp2_with fail
   refine HD3.out.mono ?_
   rintro e w3 ⟨rfl, k1⟩
   have K3 := hid (K2.out.then_ (k1.low K2.out.1.size))
   clear k1 a0 a1 a2 a3 a4 a5 a6 a7 b0 b1 b2 b3 b4 b5 b6 b7 l0 l1
   go_wp2_with fail
   go_ret
   exact ⟨by first | rfl | trivial, by first | exact K3.out | exact eg0 ▸ K3.out⟩
end Go.Proofs.YtgdcphmmehedoaaGreat.Fx
/- The statements' own in, may, joins; world.New. -/
namespace Go.Proofs.YtgdcphmmehedoaaGreat.Fx
open Go.ChangeShapes Go.WideShapes Go.ChangeAt Go.RowKit
set_option linter.unusedVariables false
abbrev wd0 : Value := .agg #[.int .i64 0, .int .i64 1, .int .i64 1, .int .i64 0, .int .i64 0, .slice none 0 0, .slice none 0 0, .slice none 0 0]
theorem new_c (w : World) : Calls Tryz.prog 22 #[] w fun e v => e = .returned wd0 ∧ Made w.heap.size w v := by
 go_enter Tryz.func22, Tryz.ntmps22
 go_wp2_with fail
 obtain ⟨W, eW⟩ : ∃ W, W = (w.alloc (.cells #[.int .i64 0, .int .i64 1, .int .i64 1, .int .i64 0, .int .i64 0, .slice none 0 0, .slice none 0 0, .slice none 0 0] 56)) := ⟨_, rfl⟩
 refine bodyPost_ret (v := wd0) (by simp [results, Tryz.results22, go_sem]) rfl ⟨rfl, ?_⟩
 exact (Made.rfl_ _ _).cells (Nat.le_refl _) _ _
end Go.Proofs.YtgdcphmmehedoaaGreat.Fx
/- The middle lies between corners of a shape: so some corner is on either side of each line through it. No Go in sight. -/
namespace Go.Proofs.YtgdcphmmehedoaaGreat.Fx
set_option linter.unusedVariables false
def Mid (x y : Nat → Int) (n : Nat) : Prop := ∃ (i j l : Nat) (a b c : Int), i < n ∧ j < n ∧ l < n ∧ 0 ≤ a ∧ 0 ≤ b ∧ 0 ≤ c ∧ 0 < a + b + c ∧ a * x i + b * x j + c * x l = 0 ∧ a * y i + b * y j + c * y l = 0
theorem box_mid (a b : Int) : Mid (boxX a) (boxY b) 4 :=
 ⟨0, 2, 2, 1, 1, 0, by omega, by omega, by omega, by omega, by omega, by omega, by omega, by unfold boxX; simp; omega, by unfold boxY; simp; omega⟩
def midOk (n t : Nat) : Bool := (List.range n).any fun i => (List.range n).any fun j => (List.range n).any fun l =>
 let a := ringX n t j * ringY n t l - ringY n t j * ringX n t l
 let b := ringX n t l * ringY n t i - ringY n t l * ringX n t i
 let c := ringX n t i * ringY n t j - ringY n t i * ringX n t j
 decide (0 ≤ a) && decide (0 ≤ b) && decide (0 ≤ c) && decide (0 < a + b + c) && decide (a * ringX n t i + b * ringX n t j + c * ringX n t l = 0) && decide (a * ringY n t i + b * ringY n t j + c * ringY n t l = 0)
theorem mid_check : (List.range 6).all (fun n => (List.range 10).all fun t => midOk (3 + n) t) = true := by decide +kernel
theorem ring_mid {n : Nat} (t : Nat) (n0 : 3 ≤ n) (n1 : n ≤ 8) : Mid (ringX n t) (ringY n t) n := by
 have h := mid_check
 rw [List.all_eq_true] at h
 have h1 := h (n - 3) (List.mem_range.2 (by omega))
 rw [List.all_eq_true] at h1
 have h2 := h1 (t % 10) (List.mem_range.2 (Nat.mod_lt _ (by omega)))
 rw [show 3 + (n - 3) = n by omega] at h2
 rw [(ring_mod n t).1, (ring_mod n t).2]
 unfold midOk at h2
 simp only [List.any_eq_true, List.mem_range, Bool.and_eq_true, decide_eq_true_eq] at h2
 obtain ⟨i, hi, j, hj, l, hl, ⟨⟨⟨⟨h3, h4⟩, h5⟩, h6⟩, h7⟩, h8⟩ := h2
 exact ⟨i, j, l, _, _, _, hi, hj, hl, h3, h4, h5, h6, h7, h8⟩
def ab (z : Int) : Int := if z < 0 then -z else z
def Fat (x y : Nat → Int) (n : Nat) : Prop := ∀ i, i < n →
 (ab (x ((i + 1) % n) - x i) + ab (y ((i + 1) % n) - y i)) * (ab (x ((i + 2) % n) - x ((i + 1) % n)) + ab (y ((i + 2) % n) - y ((i + 1) % n))) ≤
 4 * ((x ((i + 1) % n) - x i) * (y ((i + 2) % n) - y ((i + 1) % n)) - (y ((i + 1) % n) - y i) * (x ((i + 2) % n) - x ((i + 1) % n)))
theorem box_fat {a b : Int} (a0 : 1 ≤ a) (b0 : 1 ≤ b) : Fat (boxX a) (boxY b) 4 := fun i hi => by
 have p := Int.mul_pos (show 0 < a by omega) (show 0 < b by omega)
 have h1 : ab (a - -a) = 2 * a := by unfold ab; split <;> omega
 have h2 : ab (b - -b) = 2 * b := by unfold ab; split <;> omega
 have h3 : ab (-a - a) = 2 * a := by unfold ab; split <;> omega
 have h4 : ab (-b - b) = 2 * b := by unfold ab; split <;> omega
 have z : ab 0 = 0 := rfl
 rcases (show i = 0 ∨ i = 1 ∨ i = 2 ∨ i = 3 by omega) with rfl | rfl | rfl | rfl <;>
  (simp only [boxX, boxY, true_or, or_true, if_true, if_false, Nat.reduceAdd, Nat.reduceMod, Nat.reduceEqDiff, or_self, Int.sub_self, h1, h2, h3, h4, z]; grind)
def fatOk (n t : Nat) : Bool := (List.range n).all fun i => decide (
 (ab (ringX n t ((i + 1) % n) - ringX n t i) + ab (ringY n t ((i + 1) % n) - ringY n t i)) * (ab (ringX n t ((i + 2) % n) - ringX n t ((i + 1) % n)) + ab (ringY n t ((i + 2) % n) - ringY n t ((i + 1) % n))) ≤
 4 * ((ringX n t ((i + 1) % n) - ringX n t i) * (ringY n t ((i + 2) % n) - ringY n t ((i + 1) % n)) - (ringY n t ((i + 1) % n) - ringY n t i) * (ringX n t ((i + 2) % n) - ringX n t ((i + 1) % n))))
theorem fat_check : (List.range 6).all (fun n => (List.range 10).all fun t => fatOk (3 + n) t) = true := by decide +kernel
theorem ring_fat {n : Nat} (t : Nat) (n0 : 3 ≤ n) (n1 : n ≤ 8) : Fat (ringX n t) (ringY n t) n := fun i hi => by
 have h := fat_check
 rw [List.all_eq_true] at h
 have h1 := h (n - 3) (List.mem_range.2 (by omega))
 rw [List.all_eq_true] at h1
 have h2 := h1 (t % 10) (List.mem_range.2 (Nat.mod_lt _ (by omega)))
 rw [show 3 + (n - 3) = n by omega] at h2
 unfold fatOk at h2
 rw [List.all_eq_true] at h2
 rw [(ring_mod n t).1, (ring_mod n t).2]
 have h3 := h2 i (List.mem_range.2 hi)
 exact of_decide_eq_true h3
def Around (x y : Nat → Int) (n : Nat) : Prop := Round x y n ∧ Mid x y n ∧ Fat x y n
end Go.Proofs.YtgdcphmmehedoaaGreat.Fx
/- The contract of the statements' seed: a circle, a box, some places of a ring. -/
namespace Go.Proofs.YtgdcphmmehedoaaGreat.Fx
open Go.ChangeShapes Go.WideShapes Go.ChangeAt Go.RowKit
set_option linter.unusedVariables false
theorem and6 (x : Int) : bits .and .i64 x 63 = x % 64 := and_low x 6 (by omega)
theorem and5 (x : Int) : bits .and .i64 x 31 = x % 32 := and_low x 5 (by omega)
theorem and2 (x : Int) : bits .and .i64 x 3 = x % 4 := and_low x 2 (by omega)
def ringF : Cs := fun i => ringL.getD i (0, 0)
theorem ring_is (w : World) :
  Calls Tryz.prog 139 #[] w fun e w' => ∃ g, e = .returned (.slice (some ⟨g, 0, none⟩) 10 10) ∧ w.heap.size ≤ g ∧ Row w' g 28 10 ringF ∧ Made w.heap.size w w' := by
 go_enter Tryz.func139, Tryz.ntmps139
 go_wp2_with fail
 go_ret
 refine ⟨_, rfl, Nat.le_refl _, ⟨_, has_new _ _ _, by simp, fun j hj => ?_⟩, (Made.rfl_ _ _).cells (Nat.le_refl _) _ _⟩
 rcases (show j = 0 ∨ j = 1 ∨ j = 2 ∨ j = 3 ∨ j = 4 ∨ j = 5 ∨ j = 6 ∨ j = 7 ∨ j = 8 ∨ j = 9 ∨ j = 10 ∨ j = 11 ∨ j = 12 ∨ j = 13 ∨ j = 14 ∨ j = 15 ∨ j = 16 ∨ j = 17 ∨ j = 18 ∨ j = 19 by omega) with
  rfl | rfl | rfl | rfl | rfl | rfl | rfl | rfl | rfl | rfl | rfl | rfl | rfl | rfl | rfl | rfl | rfl | rfl | rfl | rfl <;> rfl
abbrev seedV (K N S T : Int) : Value := .agg #[.int .i64 K, .int .i64 N, .int .i64 S, .int .i64 T]
def SeedC (K N S T R : Int) : Prop := 268435456 ≤ R ∧ R ≤ 17179869184 ∧ ∀ w, Calls Tryz.prog 116 #[seedV K N S T] w fun e w' => e = .returned (shapeV 1 R (.slice none 0 0)) ∧ Made w.heap.size w w'
def SeedG (K N S T : Int) (n : Nat) (x y : Nat → Int) (k : Int) : Prop := Grid x y k n ∧ Around x y n ∧
 ∀ w, Calls Tryz.prog 116 #[seedV K N S T] w fun e w' => ∃ g c, e = .returned (shapeV 2 0 (.slice (some ⟨g, 0, none⟩) n c)) ∧ w.heap.size ≤ g ∧ Row w' g 28 n (grid x y k) ∧ Made w.heap.size w w'
def SeedQ (w : World) (e : Ending) (w' : World) : Prop :=
 ((∃ R, 268435456 ≤ R ∧ R ≤ 17179869184 ∧ e = .returned (shapeV 1 R (.slice none 0 0))) ∨
  (∃ g c n x y k, Grid x y k n ∧ Around x y n ∧ e = .returned (shapeV 2 0 (.slice (some ⟨g, 0, none⟩) n c)) ∧ w.heap.size ≤ g ∧ Row w' g 28 n (grid x y k))) ∧ Made w.heap.size w w'
def SeedP (w : World) (e : Ending) (w' : World) : Prop :=
 ((∃ R, 268435456 ≤ R ∧ R ≤ 17179869184 ∧ e = .returned (shapeV 1 R (.slice none 0 0))) ∨
  (∃ g c n x y k, Grid x y k n ∧ e = .returned (shapeV 2 0 (.slice (some ⟨g, 0, none⟩) n c)) ∧ w.heap.size ≤ g ∧ Row w' g 28 n (grid x y k))) ∧ Made w.heap.size w w'
theorem seed_circle (K N S T : Int) (h : K % 4 = 0) : ∃ R, SeedC K N S T R := by
 have aK := and2 K
 rw [h] at aK
 obtain ⟨s, es⟩ : ∃ s, S % 64 = s := ⟨_, rfl⟩
 have s0 : 0 ≤ s := by omega
 have s1 : s ≤ 63 := by omega
 have aS := and6 S
 rw [es] at aS
 clear es h
 obtain ⟨z, ez⟩ : ∃ z, ((1 + s) * 4294967296).tdiv 16 = z := ⟨_, rfl⟩
 have z0 : z = (1 + s) * 268435456 := by rw [← ez, Int.tdiv_eq_ediv_of_nonneg (by omega)]; omega
 have Z0 := hid z0
 have zb0 : 268435456 ≤ z := by omega
 have zb1 : z ≤ 17179869184 := by omega
 clear z0
 refine ⟨z, zb0, zb1, fun w => ?_⟩
 go_enter Tryz.func116, Tryz.ntmps116
 go_wp2_with fail
 refine bodyPost_ret (v := shapeV 1 z (.slice none 0 0)) (by simp [results, Tryz.results116, go_sem]) rfl ⟨rfl, ?_⟩
 ·exact ((Made.rfl_ _ _).cells (Nat.le_refl _) _ _).cells (by simp) _ _
theorem seed_box (K N S T : Int) (h : K % 4 = 1) : ∃ n x y k, SeedG K N S T n x y k := by
 have aK := and2 K
 rw [h] at aK
 obtain ⟨s, es⟩ : ∃ s, S % 64 = s := ⟨_, rfl⟩
 have s0 : 0 ≤ s := by omega
 have s1 : s ≤ 63 := by omega
 have aS := and6 S
 rw [es] at aS
 obtain ⟨t, et⟩ : ∃ t, T % 32 = t := ⟨_, rfl⟩
 have t0 : 0 ≤ t := by omega
 have t1 : t ≤ 31 := by omega
 have aT := and5 T
 rw [et] at aT
 clear es et h
 obtain ⟨z, ez⟩ : ∃ z, ((1 + s) * 4294967296).tdiv 16 = z := ⟨_, rfl⟩
 have z0 : z = (1 + s) * 268435456 := by rw [← ez, Int.tdiv_eq_ediv_of_nonneg (by omega)]; omega
 obtain ⟨y, ey⟩ : ∃ z, ((1 + t) * 4294967296).tdiv 16 = z := ⟨_, rfl⟩
 have y0 : y = (1 + t) * 268435456 := by rw [← ey, Int.tdiv_eq_ediv_of_nonneg (by omega)]; omega
 have iz : I64 z := by unfold I64; omega
 have iy : I64 y := by unfold I64; omega
 have gr := box_grid (a := 1 + s) (b := 1 + t) (by omega) (by omega) (by omega) (by omega)
 have hf : Hid (∀ i, i < 4 → boxF z y i = grid (boxX (1 + s)) (boxY (1 + t)) 64 i) := fun i hi => by
  have nz : negF z = -z := negR (by unfold Rg; omega)
  have ny : negF y = -y := negR (by unfold Rg; omega)
  unfold boxF grid boxX boxY
  rw [nz, ny]
  simp only [Prod.mk.injEq]
  constructor <;> split <;> omega
 have GR := hid gr
 have RR := hid (show Around (boxX (1 + s)) (boxY (1 + t)) 4 from ⟨box_round (a := 1 + s) (b := 1 + t) (by omega) (by omega), box_mid _ _, box_fat (by omega) (by omega)⟩)
 have zb0 : 268435456 ≤ z := by omega
 have zb1 : z ≤ 17179869184 := by omega
 have yb0 : 268435456 ≤ y := by omega
 have yb1 : y ≤ 17179869184 := by omega
 clear z0 y0 gr
 refine ⟨4, _, _, _, GR.out, RR.out, fun w => ?_⟩
 go_enter Tryz.func116, Tryz.ntmps116
 go_wp2_with fail
 refine (box_is z y _ _ iz iy hf.out).mono ?_
 rintro e w1 ⟨g, rfl, hg, hrow, k1⟩
 have r0 := k1.reads (p := ⟨w.heap.size + 1, 0, none⟩) (x := .int .i64 0) (by go_simp)
 have r1 := k1.reads (p := ⟨w.heap.size + 1, 1, none⟩) (x := .int .i64 0) (by go_simp)
 have r2 := k1.reads (p := ⟨w.heap.size + 1, 2, none⟩) (x := .slice none 0 0) (by go_simp)
 have n0 : w1.frozen? ⟨w.heap.size + 1, 0, none⟩ = false := (k1.2 _).trans (by go_simp)
 have n1 : w1.frozen? ⟨w.heap.size + 1, 1, none⟩ = false := (k1.2 _).trans (by go_simp)
 have n2 : w1.frozen? ⟨w.heap.size + 1, 2, none⟩ = false := (k1.2 _).trans (by go_simp)
 have HG : Hid (w.heap.size + 1 < g) := by unfold Hid; simp at hg; omega
 have M1 := hid (made_box (made_box k1))
 have HR := hid hrow
 clear k1 hg hrow
 go_wp2_with fail
 refine bodyPost_ret (v := shapeV 2 0 (.slice (some ⟨g, 0, none⟩) 4 4)) (by simp [results, Tryz.results116, go_sem, r0, r1, r2]) rfl ⟨g, 4, rfl, ?_, ?_, ?_⟩
 ·have := HG.out; omega
 ·have := HG.out
  exact ((HR.out.other _ (by simp; omega) _).other _ (by simp; omega) _).other _ (by simp; omega) _
 ·exact ((M1.out.put (by simp) _).put (by simp) _).put (by simp) _
theorem seed_ring (K N S T : Int) (h0 : K % 4 ≠ 0) (h1 : K % 4 ≠ 1) : ∃ n x y k, SeedG K N S T n x y k := by
 obtain ⟨k, ek⟩ : ∃ k, K % 4 = k := ⟨_, rfl⟩
 have aK := and2 K
 rw [ek] at aK h0 h1
 have k0 : (k == 0) = false := by simpa using h0
 have k1 : (k == 1) = false := by simpa using h1
 obtain ⟨s, es⟩ : ∃ s, S % 64 = s := ⟨_, rfl⟩
 have s0 : 0 ≤ s := by omega
 have s1 : s ≤ 63 := by omega
 have aS := and6 S
 rw [es] at aS
 obtain ⟨v, ev⟩ : ∃ v, N % 256 = v := ⟨_, rfl⟩
 have v0 : 0 ≤ v := by omega
 have v1 : v ≤ 255 := by omega
 have aN := and8 N
 rw [ev] at aN
 obtain ⟨t, et⟩ : ∃ t : Nat, T % 256 = (t : Int) := ⟨(T % 256).toNat, by omega⟩
 have t1 : t ≤ 255 := by omega
 have aT := and8 T
 rw [et] at aT
 clear es et ev ek h0 h1
 obtain ⟨z, ez⟩ : ∃ z, ((1 + s) * 4294967296).tdiv 16 = z := ⟨_, rfl⟩
 have z0 : z = (1 + s) * 268435456 := by rw [← ez, Int.tdiv_eq_ediv_of_nonneg (by omega)]; omega
 obtain ⟨n, en⟩ : ∃ n : Nat, 3 + v % 6 = (n : Int) := ⟨(3 + v % 6).toNat, by omega⟩
 have en' : 3 + v.tmod 6 = (n : Int) := by rw [Int.tmod_eq_emod_of_nonneg (by omega)]; exact en
 have n0 : 3 ≤ n := by omega
 have n1 : n ≤ 8 := by omega
 have GR := hid (ring_grid (k := 1 + s) t (by omega) (by omega) n0 n1)
 have RR := hid (show Around (ringX n t) (ringY n t) n from ⟨ring_round t n0 n1, ring_mid t n0 n1, ring_fat t n0 n1⟩)
 have GB := hid (ring_grid (k := 1) t (by omega) (by omega) n0 n1)
 have Z0 := hid z0
 have zb0 : 268435456 ≤ z := by omega
 have zb1 : z ≤ 17179869184 := by omega
 obtain ⟨i0, hi, hz0, hz1, hz2⟩ := info_parts info_V
 have iHi := hid hi; have iH0 := hid hz0; have iH1 := hid hz1; have iH2 := hid hz2
 clear z0 hi hz0 hz1 hz2
 refine ⟨n, _, _, _, GR.out, RR.out, fun w => ?_⟩
 go_enter Tryz.func116, Tryz.ntmps116
 go_wp2_with fail
 refine (ring_is _).mono ?_
 rintro e w1 ⟨rg, rfl, hg, hrow, k1⟩
 have x3 := k1.reads (p := ⟨w.heap.size, 3, none⟩) (x := .int .i64 T) (by go_simp)
 have r0 := k1.reads (p := ⟨w.heap.size + 1, 0, none⟩) (x := .int .i64 0) (by go_simp)
 have r1 := k1.reads (p := ⟨w.heap.size + 1, 1, none⟩) (x := .int .i64 0) (by go_simp)
 have r2 := k1.reads (p := ⟨w.heap.size + 1, 2, none⟩) (x := .slice none 0 0) (by go_simp)
 have rf : Hid (∀ i, w1.frozen? ⟨w.heap.size + 1, i, none⟩ = false) := fun i => (k1.2 _).trans (by go_simp)
 have o0 : Has w1 (w.heap.size + 1 + 1) 33 #[.int .i64 2, .int .i64 0, .slice none 0 0] := by
  refine Has.stays ?_ k1 (by simp)
  simpa using has_new ((w.alloc (.cells #[.int .i64 K, .int .i64 N, .int .i64 S, .int .i64 T] 25)).alloc (.cells #[.int .i64 0, .int .i64 0, .slice none 0 0] 33)) 33 #[.int .i64 2, .int .i64 0, .slice none 0 0]
 have M1 : Hid (Made w.heap.size w w1) := made_box (made_box (made_box k1))
 have hrg : w.heap.size + 1 + 1 < rg := by simp at hg; omega
 obtain ⟨H, eH⟩ : ∃ H, w.heap.size = H := ⟨_, rfl⟩
 obtain ⟨H1, e1⟩ : ∃ H1, H + 1 = H1 := ⟨_, rfl⟩
 obtain ⟨O, eO⟩ : ∃ O, H1 + 1 = O := ⟨_, rfl⟩
 rw [eH] at x3
 rw [eH, e1] at r0 r1 r2 rf
 rw [eH, e1, eO] at o0 hrg
 have R1 := hid hrow
 have hrg1 := hrow.here
 have OO := hid o0
 have X3 := hid x3; have Q0 := hid r0; have Q1 := hid r1; have Q2 := hid r2
 have lt1 : H < H1 := by omega
 have lt2 : H1 < O := by omega
 have lt0 : H < O := by omega
 have EH := hid eH
 clear k1 hg hrow x3 r0 r1 r2 o0
 go_wp2_with fail
 clear eH e1 eO
 go_loopg [40] n (fun g i wr => ∃ (m : Nat) (v : Value), m + g = n ∧ i = .int .i64 m ∧ Hid (Has wr O 33 #[.int .i64 2, .int .i64 0, v]) ∧ Hid (Row wr rg 28 10 ringF) ∧
  Hid (wr.ownsRow w1.heap.size 28 2 v m (flat (grid (ringX n t) (ringY n t) (1 + s)) m)) ∧ Hid (Made O w1 wr))
 case atStart => exact ⟨0, _, by omega, rfl, OO, R1, World.ownsRow_nil _ _ _ _, Made.rfl_ _ _⟩
 case round =>
  obtain ⟨m, sv, hm, rfl, HO, HR, HW, HM⟩ := hrel
  by_cases hlt : m < n
  ·obtain ⟨q, eq⟩ : ∃ q, m * 10 / n = q := ⟨_, rfl⟩
   have q1 : q ≤ 80 := by rw [← eq]; exact Nat.le_trans (Nat.div_le_self _ _) (by omega)
   have e2' : ((m : Int) * 10) / (n : Int) = (q : Int) := by rw [← eq, Int.natCast_ediv, Int.natCast_mul]; rfl
   have e2 : ((m : Int) * 10).tdiv (n : Int) = (q : Int) := by rw [Int.tdiv_eq_ediv_of_nonneg (by omega)]; exact e2'
   obtain ⟨j, ej⟩ : ∃ j, (q + t) % 10 = j := ⟨_, rfl⟩
   have j1 : j < 10 := by omega
   have e3' : ((q : Int) + (t : Int)) % 10 = (j : Int) := by omega
   have e3 : ((q : Int) + (t : Int)).tmod 10 = (j : Int) := by rw [Int.tmod_eq_emod_of_nonneg (by omega)]; exact e3'
   obtain ⟨x, ex⟩ : ∃ x, (ringF j).1 = x := ⟨_, rfl⟩
   obtain ⟨y, ey⟩ : ∃ y, (ringF j).2 = y := ⟨_, rfl⟩
   have gx : ringX n t m = x := by unfold ringX; rw [eq, ej]; exact ex
   have gy : ringY n t m = y := by unfold ringY; rw [eq, ej]; exact ey
   have bx := GB.out.xb m hlt
   have b_y := GB.out.yb m hlt
   rw [gx] at bx
   rw [gy] at b_y
   obtain ⟨c0, c1⟩ := HR.out.pts j j1
   rw [ex, Nat.zero_add] at c0
   rw [ey, Nat.zero_add] at c1
   have px := prod_in (x := x) (y := z) (X := 65) (Y := 17179869184) (by omega) (by omega) (by omega) (by omega)
   have py := prod_in (x := y) (y := z) (X := 65) (Y := 17179869184) (by omega) (by omega) (by omega) (by omega)
   obtain ⟨X, eX⟩ : ∃ X, x * z = X := ⟨_, rfl⟩
   obtain ⟨Y, eY⟩ : ∃ Y, y * z = Y := ⟨_, rfl⟩
   rw [eX] at px
   rw [eY] at py
   obtain ⟨px0, px1⟩ := px
   obtain ⟨py0, py1⟩ := py
   obtain ⟨X', eX'⟩ : ∃ X', X.tdiv 64 = X' := ⟨_, rfl⟩
   obtain ⟨Y', eY'⟩ : ∃ Y', Y.tdiv 64 = Y' := ⟨_, rfl⟩
   have fX : X' = x * ((1 + s) * 4194304) := by
    have : X = x * ((1 + s) * 4194304) * 64 := by rw [← eX, Z0.out, Int.mul_assoc]; congr 1; omega
    rw [← eX', this, Int.mul_tdiv_cancel _ (by omega)]
   have fY : Y' = y * ((1 + s) * 4194304) := by
    have : Y = y * ((1 + s) * 4194304) * 64 := by rw [← eY, Z0.out, Int.mul_assoc]; congr 1; omega
    rw [← eY', this, Int.mul_tdiv_cancel _ (by omega)]
   have kz := prod_in (x := x) (y := (1 + s) * 4194304) (X := 65) (Y := 268435456) (by omega) (by omega) (by omega) (by omega)
   have ky := prod_in (x := y) (y := (1 + s) * 4194304) (X := 65) (Y := 268435456) (by omega) (by omega) (by omega) (by omega)
   rw [← fX] at kz
   rw [← fY] at ky
   obtain ⟨kx0, kx1⟩ := kz
   obtain ⟨ky0, ky1⟩ := ky
   have HX : Hid ((grid (ringX n t) (ringY n t) (1 + s) m).1 = X') := by unfold Hid grid; simp only []; rw [gx, fX]
   have HY : Hid ((grid (ringX n t) (ringY n t) (1 + s) m).2 = Y') := by unfold Hid grid; simp only []; rw [gy, fY]
   have x3 := HM.out.at_ (by exact lt0) X3.out
   have hrs := HR.out.here
   have hOs := HO.out.here
   have hnz : (n : Int) ≠ 0 := by omega
   clear bx b_y fX fY gx gy ex ey eq ej
   go_wp2_with fail
   refine reg_float1 12 73 8 28 #[.int .i64 0, .int .i64 0] _ (by kernel_rfl) (by kernel_rfl) (by kernel_rfl) rfl rfl alc_V ?_
   apply Exists.intro
   refine ⟨?h1, ?h2⟩
   case h1 =>
    intro T' hT fw hf
    have b0 := Class.reads hf c0
    have b1 := Class.reads hf c1
    have b2 := Class.reads hf x3
    simp only [List.take_succ_cons, List.take_zero]
    repeat (go_big_quiet_step (fail))
    exact wpQuiet_nil rfl
   intro g w3 k3 hg hh
   have hOg : O < g := by omega
   have O3 := HO.out.stays k3 hOs
   have R3 := HR.out.kept k3
   have W3 := own_stays HW.out k3
   have M3 : Hid (Made O w1 w3) := HM.out.then_ (k3.low (Nat.le_of_lt hOs))
   have hs1 : w1.heap.size ≤ wr.heap.size := HM.out.1.size
   have z0 := hh.at_ 0
   have z1 := hh.at_ 1
   simp at z0 z1
   have zf : ∀ i, w3.frozen? ⟨g, i, none⟩ = false := fun i => hh.free i
   have hgs := hh.here
   obtain ⟨V1, eV⟩ : ∃ W, W = (w3.setCell ⟨g, 0, none⟩ (.int .i64 x)).setCell ⟨g, 1, none⟩ (.int .i64 y) := ⟨_, rfl⟩
   have O4 : Hid (Has V1 O 33 #[.int .i64 2, .int .i64 0, sv]) := by unfold Hid; rw [eV]; exact (O3.other _ (by simp; omega) _).other _ (by simp; omega) _
   have R4 : Hid (Row V1 rg 28 10 ringF) := by unfold Hid; rw [eV]; exact (R3.other _ (by simp; omega) _).other _ (by simp; omega) _
   have hsv : ∀ b, sv.ownBlock = some b → b < wr.heap.size := fun b hb => (HW.out.lt b hb).2
   have W4 : Hid (V1.ownsRow w1.heap.size 28 2 sv m (flat (grid (ringX n t) (ringY n t) (1 + s)) m)) := by
    unfold Hid; rw [eV]
    have ne : ∀ i, sv.ownBlock ≠ some (Addr.block ⟨g, i, none⟩) := fun i e => by
     have := hsv _ e
     simp at this
     omega
    exact own_other (own_other W3 (ne 0) _) (ne 1) _
   have M4 : Hid (Made O w1 V1) := by unfold Hid; rw [eV]; exact (M3.out.put (by simp; omega) _).put (by simp; omega) _
   have v0 : V1.cell? ⟨g, 0, none⟩ = some (.int .i64 x) := by rw [eV]; go_simp
   have v1 : V1.cell? ⟨g, 1, none⟩ = some (.int .i64 y) := by rw [eV]; go_simp
   have sz4 : V1.heap.size = w3.heap.size := by rw [eV]; simp
   have hw3 : w1.heap.size ≤ V1.heap.size := by have := k3.1.size; omega
   have u2 := O4.out.at_ 2
   simp at u2
   clear k3 hh hg O3 R3 W3 c0 c1 x3
   simp only [List.drop_succ_cons, List.drop_zero]
   go_upto_region 14 with fail
   rw [← eV]
   clear eV z0 z1 zf sz4
   have hOw : ∀ b, sv.ownBlock = some b → w1.heap.size ≤ b := fun b hb => (HW.out.lt b hb).1
   have HOW := hid hOw
   have HSV := hid hsv
   clear hOw hsv
   go_wp2_with (at_builtin; refine wpList_append_made _ rfl (.tmp 56) (.tmp 68) 31 rfl w1.heap.size 28 i0 (.agg #[.int .i64 0, .int .i64 0]) 2 16 Tryz.underlying31 iHi.out iH0.out iH1.out iH2.out rfl (by decide) sv m (flat (grid (ringX n t) (ringY n t) (1 + s)) m) rfl (W4.out.alloc _) ⟨V1.heap.size, 0, none⟩ 1 1 [.int .i64 X', .int .i64 Y'] rfl rfl (news_pair _ _ _ _) (pair_one _ _) (by unfold maxLen; omega) (by omega) (by simp; omega) (by omega) ?_)
   intro v' w2 hown hgr hfr
   rw [flat_next _ m HX.out HY.out] at hown
   obtain ⟨g', cap', rfl, hgb, _, _, _⟩ := Row.of_own hown (by omega)
   have neO : some O ≠ sv.ownBlock := fun e => by have := HOW.out O e.symm; omega
   have neR : some rg ≠ sv.ownBlock := fun e => by have := HOW.out rg e.symm; omega
   have O6 : Hid (Has w2 O 33 #[.int .i64 2, .int .i64 0, sv]) := (O4.out.more _).app hgr neO
   have R6 : Hid (Row w2 rg 28 10 ringF) := (R4.out.more _).app hgr neR
   have M6 : Hid (Made O w1 w2) := (M4.out.cells (by omega) _ _).app hgr hfr (by simp; omega) (fun k hk => by have := HOW.out k hk; omega)
   have W6 := hid hown
   have y2 := O6.out.at_ 2
   simp at y2
   have fz := O6.out.free 2
   clear hown hgr hfr
   go_wp2_with fail
   go_roundg (n - m - 1)
   case rel =>
    refine ⟨m + 1, _, by omega, by go_num, O6.out.put 2 _, R6.out.other _ (by simp; omega) _, ownsRow_setCell_below W6.out (by simp; omega) _, M6.out.put (by simp) _⟩
   case measure => omega
  ·have e : m = n := by omega
   subst e
   obtain ⟨g, cap, rfl, hgb, hgc, hgm, hrow⟩ := Row.of_own HW.out (by omega)
   have y0 := HO.out.at_ 0
   have y1 := HO.out.at_ 1
   have y2 := HO.out.at_ 2
   simp at y0 y1 y2
   have q0 := HM.out.at_ (by exact lt2) Q0.out
   have q1 := HM.out.at_ (by exact lt2) Q1.out
   have q2 := HM.out.at_ (by exact lt2) Q2.out
   have f0 : ∀ i, wr.frozen? ⟨H1, i, none⟩ = false := fun i => (HM.out.2 _).trans (rf.out i)
   have RW := hid hrow
   have HG : Hid (rg < g) := by unfold Hid; omega
   clear hgb hgc hgm hrow
   go_wp2_with fail
   refine bodyPost_ret (v := shapeV 2 0 (.slice (some ⟨g, 0, none⟩) m cap)) (by simp [results, Tryz.results116, go_sem, q0, q1, q2]) rfl ⟨g, cap, rfl, ?_, ?_, ?_⟩
   ·have h1 := HG.out
    have h2 := EH.out
    omega
   ·have h1 := HG.out
    exact ((RW.out.other _ (by simp; omega) _).other _ (by simp; omega) _).other _ (by simp; omega) _
   ·have h2 := EH.out
    exact (((M1.out.then_ (HM.out.low (by omega))).put (by simp; omega) _).put (by simp; omega) _).put (by simp; omega) _
theorem seed_det (K N S T : Int) : (∃ R, SeedC K N S T R) ∨ ∃ n x y k, SeedG K N S T n x y k := by
 by_cases h0 : K % 4 = 0
 ·exact .inl (seed_circle K N S T h0)
 ·by_cases h1 : K % 4 = 1
  ·exact .inr (seed_box K N S T h1)
  ·exact .inr (seed_ring K N S T h0 h1)
end Go.Proofs.YtgdcphmmehedoaaGreat.Fx