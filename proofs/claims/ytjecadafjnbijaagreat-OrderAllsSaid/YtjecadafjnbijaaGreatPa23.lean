/- OrN OrP OrQ OrR OrMa -/
import Derived.Test.YtjecadafjnbijaaGreatPa19
import Derived.Test.YtjecadafjnbijaaGreatPa22
import Derived.Deep.LoopGhost
import Derived.LoopN
import Derived.WalkMore
import Derived.Deep.DeepCutAuto
import Derived.Deep.CutBlock
set_option maxRecDepth 100000
set_option maxHeartbeats 64000000
/- IndexFunc and ContainsFunc over orders; are all of them right? -/
namespace Go.Proofs.YtjecadafjnbijaaGreat.Fx
open Go.ChangeShapes Go.WideShapes Go.ChangeAt Go.RowKit
set_option linter.unusedVariables false
theorem ElT.o15 {w : World} {b o : Nat} {x : Or} (h : ElT encO w b o x) : w.cell? ⟨b, o, none⟩ = some (.int .i64 x.kd) ∧ w.cell? ⟨b, o + 1, none⟩ = some (.int .i64 x.id) ∧ w.cell? ⟨b, o + 2, none⟩ = some (.int .i64 x.a) ∧ w.cell? ⟨b, o + 3, none⟩ = some (.int .i64 x.b) ∧ w.cell? ⟨b, o + 4, none⟩ = some (.int .i64 x.x) ∧ w.cell? ⟨b, o + 5, none⟩ = some (.int .i64 x.y) ∧ w.cell? ⟨b, o + 6, none⟩ = some (.int .i64 x.vx) ∧ w.cell? ⟨b, o + 7, none⟩ = some (.int .i64 x.vy) ∧ w.cell? ⟨b, o + 8, none⟩ = some (.int .i64 x.an) ∧ w.cell? ⟨b, o + 9, none⟩ = some (.int .i64 x.sp) ∧ w.cell? ⟨b, o + 10, none⟩ = some (.int .i64 x.de) ∧ w.cell? ⟨b, o + 11, none⟩ = some (.int .i64 x.ln) ∧ w.cell? ⟨b, o + 12, none⟩ = some (.int .i64 x.k) ∧ w.cell? ⟨b, o + 13, none⟩ = some (.int .i64 x.r) ∧ w.cell? ⟨b, o + 14, none⟩ = some (.slice x.ao x.n x.c) :=
 ⟨h 0 _ rfl, h 1 _ rfl, h 2 _ rfl, h 3 _ rfl, h 4 _ rfl, h 5 _ rfl, h 6 _ rfl, h 7 _ rfl, h 8 _ rfl, h 9 _ rfl, h 10 _ rfl, h 11 _ rfl, h 12 _ rfl, h 13 _ rfl, h 14 _ rfl⟩
theorem idxO_c (g : Nat) (lb : Array Value) (eg : ∀ args w, (callFunc g args).run Tryz.prog w = .ok (.enter g args) w) (X : Nat → Prop) (St : Nat → World → Prop) (p : Nat → Bool) {l : List Or} {ao : Option Addr} {n c : Nat} {w : World}
  (hn : l.length = n) (hmx : n ≤ 4611686018427387904) (hl : LsT encO 15 w ao l) (hX : 0 < n → Offs X ao) (hS0 : St 0 w)
  (hS : ∀ i x u, l[i]? = some x → But X w u → St i u → Calls Tryz.prog g (#[orV x] ++ lb) u fun e v => e = .returned (.bool (p i)) ∧ But X u v ∧ St (i + 1) v) :
  Calls Tryz.prog 81 #[.slice ao n c, .func (.func g) #[] lb] w fun e v => ∃ r : Int, e = .returned (.int .i64 r) ∧ But X w v ∧ ((r = -1 ∧ (∀ i, i < n → p i = false) ∧ St n v) ∨ ∃ i, i < n ∧ r = i ∧ p i = true ∧ (∀ j, j < i → p j = false) ∧ St (i + 1) v) := by
 have HN := hid hn
 have HL := hid hl
 have HX := hid hX
 have HS := hid hS
 have H0 := hid hS0
 clear hn hl hX hS hS0
 go_enter Tryz.func81, Tryz.ntmps81
 go_wp2_with fail
 go_loopg [5, 8] n (fun gg s5 s8 wx => ∃ k : Nat, k + gg = n ∧ s8 = .int .i64 k ∧ Hid (But X w wx ∧ St k wx ∧ ∀ j, j < k → p j = false))
 case atStart => exact ⟨0, by omega, rfl, But.rfl_ _ _, H0.out, fun j hj => absurd hj (Nat.not_lt_zero _)⟩
 case round =>
  obtain ⟨k, hk, rfl, HB⟩ := hrel
  by_cases hlt : k < n
  ·obtain ⟨a, ea⟩ : ∃ a, l[k]? = some a := ⟨_, List.getElem?_eq_getElem (by rw [HN.out]; omega)⟩
   obtain ⟨b, off, rfl, hbl, hLB⟩ := HL.out (by rw [HN.out]; omega)
   have hcall := HS.out k a wr ea HB.out.1 HB.out.2.1
   have hcells := ((hLB.but HB.out.1 (HX.out (by omega) b off _ rfl)) k _ ea).o15
   clear ea hLB
   obtain ⟨x0, x1, x2, x3, x4, x5, x6, x7, x8, x9, x10, x11, x12, x13, x14, x15, x16, x17⟩ := a
   obtain ⟨a0, a1, a2, a3, a4, a5, a6, a7, a8, a9, a10, a11, a12, a13, a14⟩ := hcells
   simp only [] at a0 a1 a2 a3 a4 a5 a6 a7 a8 a9 a10 a11 a12 a13 a14
   obtain ⟨q, eq⟩ : ∃ q, p k = q := ⟨_, rfl⟩
   rw [eq] at hcall
   have EQ := hid eq
   clear eq
   cases q with
   | true =>
    go_wp2_with (go_at_fn g; refine hcall.mono ?_; rintro e w' ⟨rfl, k1, k2⟩)
    go_ret
    exact ⟨_, rfl, HB.out.1.then_ k1, .inr ⟨k, hlt, rfl, EQ.out, HB.out.2.2, k2⟩⟩
   | false =>
    go_wp2_with (go_at_fn g; refine hcall.mono ?_; rintro e w' ⟨rfl, k1, k2⟩)
    go_roundg (n - (k + 1))
    case measure => omega
    case rel =>
     refine ⟨k + 1, by omega, by go_num, HB.out.1.then_ k1, k2, fun j hj => ?_⟩
     by_cases e : j = k
     ·subst e; exact EQ.out
     ·exact HB.out.2.2 j (by omega)
  ·go_wp2_with fail
   go_ret
   have e : k = n := by omega
   subst e
   exact ⟨_, rfl, HB.out.1, .inl ⟨rfl, HB.out.2.2, HB.out.2.1⟩⟩
theorem containsO_c (g : Nat) (lb : Array Value) (eg : ∀ args w, (callFunc g args).run Tryz.prog w = .ok (.enter g args) w) (X : Nat → Prop) (St : Nat → World → Prop) (p : Nat → Bool) {l : List Or} {ao : Option Addr} {n c : Nat} {w : World}
  (hn : l.length = n) (hmx : n ≤ 4611686018427387904) (hl : LsT encO 15 w ao l) (hX : 0 < n → Offs X ao) (hS0 : St 0 w)
  (hS : ∀ i x u, l[i]? = some x → But X w u → St i u → Calls Tryz.prog g (#[orV x] ++ lb) u fun e v => e = .returned (.bool (p i)) ∧ But X u v ∧ St (i + 1) v) :
  Calls Tryz.prog 49 #[.slice ao n c, .func (.func g) #[] lb] w fun e v => ∃ r, e = .returned (.bool r) ∧ But X w v ∧ ((r = false ∧ (∀ i, i < n → p i = false) ∧ St n v) ∨ (r = true ∧ ∃ i, i < n ∧ p i = true)) := by
 have HC := hid (idxO_c g lb eg X St p (c := c) hn hmx hl hX hS0 hS)
 clear hn hl hX hS hS0
 go_enter Tryz.func49, Tryz.ntmps49
 go_wp2_with fail
 refine HC.out.mono ?_
 rintro e w1 ⟨r, rfl, k1, h⟩
 rcases h with ⟨rfl, h1, h2⟩ | ⟨i, hi, rfl, h1, h2, h3⟩
 ·go_wp2_with fail
  go_ret
  exact ⟨_, rfl, k1, .inl ⟨rfl, h1, h2⟩⟩
 ·go_wp2_with fail
  go_ret
  exact ⟨_, rfl, k1, .inr ⟨by simp, i, hi, h1⟩⟩
def OrsAt (w : World) (ao : Option Addr) (l : List Or) : Prop := LsT encO 15 w ao l ∧ ∀ o ∈ l, OrI o ∧ o.n ≤ 1073741824 ∧ Sl w o.ao o.n o.f
theorem OrsAt.kept {w v : World} {ao : Option Addr} {l : List Or} (h : OrsAt w ao l) (k : Made w.heap.size w v) : OrsAt v ao l :=
 ⟨h.1.kept k, fun o ho => ⟨(h.2 o ho).1, (h.2 o ho).2.1, fun hn => by obtain ⟨b, off, e, hp⟩ := (h.2 o ho).2.2 hn; exact ⟨b, off, e, hp.kept k⟩⟩⟩
theorem wrong_c (q : Bool) (o : Or) {w : World} (hmx : o.n ≤ 1073741824) (hi : OrI o) (hs : Sl w o.ao o.n o.f) (hq : q = true ↔ OrderP o) : Calls Tryz.prog 50 #[orV o] w fun e v => e = .returned (.bool (!q)) ∧ Made w.heap.size w v := by
 have HC := hid (fun v (k : Made w.heap.size w v) => oright_c q o (w := v) hmx hi (fun hn => by obtain ⟨b, off, e, hp⟩ := hs hn; exact ⟨b, off, e, hp.kept k⟩) hq)
 clear hmx hi hs hq
 obtain ⟨kd, id, a, b, x, y, vx, vy, an, sp, de, ln, k, r, ao, n, c, f⟩ := o
 obtain ⟨W, eW⟩ : ∃ W, W = w.alloc (.cells #[.int .i64 kd, .int .i64 id, .int .i64 a, .int .i64 b, .int .i64 x, .int .i64 y, .int .i64 vx, .int .i64 vy, .int .i64 an, .int .i64 sp, .int .i64 de, .int .i64 ln, .int .i64 k, .int .i64 r, .slice ao n c] 49) := ⟨_, rfl⟩
 have KW : Hid (Made w.heap.size w W) := by unfold Hid; rw [eW]; exact (Made.rfl_ _ _).cells (Nat.le_refl _) _ _
 have HB : Hid (Has W w.heap.size 49 #[.int .i64 kd, .int .i64 id, .int .i64 a, .int .i64 b, .int .i64 x, .int .i64 y, .int .i64 vx, .int .i64 vy, .int .i64 an, .int .i64 sp, .int .i64 de, .int .i64 ln, .int .i64 k, .int .i64 r, .slice ao n c]) := by unfold Hid; rw [eW]; exact has_new _ _ _
 obtain ⟨g1, eg1⟩ : ∃ g, w.heap.size = g := ⟨_, rfl⟩
 have HG1 := hid eg1
 rw [eg1] at HB
 have b0 := HB.out.at_ 0
 have b1 := HB.out.at_ 1
 have b2 := HB.out.at_ 2
 have b3 := HB.out.at_ 3
 have b4 := HB.out.at_ 4
 have b5 := HB.out.at_ 5
 have b6 := HB.out.at_ 6
 have b7 := HB.out.at_ 7
 have b8 := HB.out.at_ 8
 have b9 := HB.out.at_ 9
 have b10 := HB.out.at_ 10
 have b11 := HB.out.at_ 11
 have b12 := HB.out.at_ 12
 have b13 := HB.out.at_ 13
 have b14 := HB.out.at_ 14
 simp at b0 b1 b2 b3 b4 b5 b6 b7 b8 b9 b10 b11 b12 b13 b14
 have l1 : g1 < W.heap.size := HB.out.here
 go_enter Tryz.func50, Tryz.ntmps50
 go_upto_region 1 with fail
 rw [← eW]
 clear eW
 try rw [eg1]
 clear eg1
 go_wp2_with fail
 refine (HC.out _ KW.out).mono ?_
 rintro e w1 ⟨rfl, k1⟩
 have K1 := hid (KW.out.then_ (k1.low KW.out.1.size))
 clear k1 b0 b1 b2 b3 b4 b5 b6 b7 b8 b9 b10 b11 b12 b13 b14 l1
 go_wp2_with fail
 go_ret
 exact ⟨rfl, K1.out⟩
theorem anyWrong_c {l : List Or} {ao : Option Addr} {n c : Nat} {w : World} (hn : l.length = n) (hmx : n ≤ 4611686018427387904) (hl : OrsAt w ao l) :
  Calls Tryz.prog 49 #[.slice ao n c, .func (.func 50) #[] #[]] w fun e v => ∃ r, e = .returned (.bool r) ∧ Made w.heap.size w v ∧ (r = true ↔ ∃ o ∈ l, ¬ OrderP o) := by
 have hdec : ∀ i : Nat, ∃ t : Bool, t = true ↔ ∃ o, l[i]? = some o ∧ ¬ OrderP o := fun (i : Nat) => a_bool (∃ o, l[i]? = some o ∧ ¬ OrderP o)
 refine (containsO_c 50 #[] (by intro args w; rfl) Nil0 (fun _ _ => True) (fun i => Classical.choose (hdec i)) (c := c) (w := w) hn hmx hl.1 (fun _ => Offs.nil _) trivial (fun i x u hx hB _ => ?_)).mono ?_
 ·obtain ⟨h1, h2, h3⟩ := (hl.kept hB.made).2 x (List.mem_of_getElem? hx)
  obtain ⟨q, hq⟩ := a_bool (OrderP x)
  refine (wrong_c q x h2 h1 h3 hq).mono ?_
  rintro e v ⟨rfl, k⟩
  refine ⟨?_, Made.but k, trivial⟩
  have hc := Classical.choose_spec (hdec i)
  have h4 : Classical.choose (hdec i) = !q := by
   cases q with
   | true =>
    have hx' := hq.1 rfl
    rw [Bool.not_true]
    exact Bool.eq_false_iff.2 fun h => by
     obtain ⟨o, ho, hno⟩ := hc.1 h
     rw [hx] at ho
     cases ho
     exact hno hx'
   | false =>
    rw [Bool.not_false]
    exact hc.2 ⟨x, hx, fun h => by have := hq.2 h; cases this⟩
  rw [h4]
 ·rintro e v ⟨r, rfl, k, h⟩
  refine ⟨r, rfl, k.made, ?_⟩
  rcases h with ⟨rfl, h1, _⟩ | ⟨rfl, i, hi, h1⟩
  ·refine ⟨fun e => (by cases e), fun ⟨o, ho, hno⟩ => ?_⟩
   obtain ⟨i, hi⟩ := List.mem_iff_getElem?.1 ho
   have h2 := h1 i (by rw [← hn]; exact (List.getElem?_eq_some_iff.1 hi).1)
   have h3 := (Classical.choose_spec (hdec i)).2 ⟨o, hi, hno⟩
   rw [h2] at h3
   cases h3
  ·obtain ⟨o, ho, hno⟩ := (Classical.choose_spec (hdec i)).1 h1
   exact ⟨fun _ => ⟨o, List.mem_of_getElem? ho, hno⟩, fun _ => rfl⟩
end Go.Proofs.YtjecadafjnbijaaGreat.Fx
/- order.execute by kinds (but Push). -/
namespace Go.Proofs.YtjecadafjnbijaaGreat.Fx
open Go.ChangeShapes Go.WideShapes Go.ChangeAt Go.RowKit
set_option linter.unusedVariables false
theorem exec6 (id a b x y vx vy an sp de ln k r : Int) (ao : Option Addr) (n c : Nat) (w : World) (gw : Nat) (lgw : gw < w.heap.size) {c0 c1 c2 c3 c4 c5 c6 c7 : Value} (hH : Has w gw 42 #[c0, c1, c2, c3, c4, c5, c6, c7]) :
  Calls Tryz.prog 30 #[.pointer (some ⟨gw, 0, none⟩), .agg #[.int .i64 6, .int .i64 id, .int .i64 a, .int .i64 b, .int .i64 x, .int .i64 y, .int .i64 vx, .int .i64 vy, .int .i64 an, .int .i64 sp, .int .i64 de, .int .i64 ln, .int .i64 k, .int .i64 r, .slice ao n c]] w fun e v => e = .returned (.int .i64 0) ∧ But (fun b => b = gw) w v ∧ Has v gw 42 #[c0, c1, c2, .int .i64 vx, .int .i64 vy, c5, c6, c7] := by
 have HH := hid hH
 clear hH
 obtain ⟨W, eW⟩ : ∃ W, W = w.alloc (.cells #[.int .i64 6, .int .i64 id, .int .i64 a, .int .i64 b, .int .i64 x, .int .i64 y, .int .i64 vx, .int .i64 vy, .int .i64 an, .int .i64 sp, .int .i64 de, .int .i64 ln, .int .i64 k, .int .i64 r, .slice ao n c] 49) := ⟨_, rfl⟩
 have KW : Hid (Made w.heap.size w W) := by unfold Hid; rw [eW]; exact (Made.rfl_ _ _).cells (Nat.le_refl _) _ _
 have HB : Hid (Has W w.heap.size 49 #[.int .i64 6, .int .i64 id, .int .i64 a, .int .i64 b, .int .i64 x, .int .i64 y, .int .i64 vx, .int .i64 vy, .int .i64 an, .int .i64 sp, .int .i64 de, .int .i64 ln, .int .i64 k, .int .i64 r, .slice ao n c]) := by unfold Hid; rw [eW]; exact has_new _ _ _
 obtain ⟨g1, eg1⟩ : ∃ g, w.heap.size = g := ⟨_, rfl⟩
 have HG1 := hid eg1
 rw [eg1] at HB
 have b_0 := HB.out.at_ 0
 have b_1 := HB.out.at_ 1
 have b_2 := HB.out.at_ 2
 have b_3 := HB.out.at_ 3
 have b_4 := HB.out.at_ 4
 have b_5 := HB.out.at_ 5
 have b_6 := HB.out.at_ 6
 have b_7 := HB.out.at_ 7
 have b_8 := HB.out.at_ 8
 have b_9 := HB.out.at_ 9
 have b_10 := HB.out.at_ 10
 have b_11 := HB.out.at_ 11
 have b_12 := HB.out.at_ 12
 have b_13 := HB.out.at_ 13
 have b_14 := HB.out.at_ 14
 simp at b_0 b_1 b_2 b_3 b_4 b_5 b_6 b_7 b_8 b_9 b_10 b_11 b_12 b_13 b_14
 have l1 : g1 < W.heap.size := HB.out.here
 go_enter Tryz.func30, Tryz.ntmps30
 go_upto_region 1 with fail
 rw [← eW]
 clear eW
 try rw [eg1]
 clear eg1
 have HW1 := hid (HH.out.stays KW.out lgw)
 have y_0 := HW1.out.at_ 0
 have y_1 := HW1.out.at_ 1
 have y_2 := HW1.out.at_ 2
 have y_3 := HW1.out.at_ 3
 have y_4 := HW1.out.at_ 4
 have y_5 := HW1.out.at_ 5
 have y_6 := HW1.out.at_ 6
 have y_7 := HW1.out.at_ 7
 simp at y_0 y_1 y_2 y_3 y_4 y_5 y_6 y_7
 have lw : gw < W.heap.size := HW1.out.here
 have fw : ∀ i, W.frozen? ⟨gw, i, none⟩ = false := HW1.out.free
 obtain ⟨V, eV⟩ : ∃ V, V = (W.setCell ⟨gw, 3, none⟩ (.int .i64 vx)).setCell ⟨gw, 4, none⟩ (.int .i64 vy) := ⟨_, rfl⟩
 have kV : But (fun b => b = gw) W V := by rw [eV]; exact ((But.rfl_ (fun b => b = gw) W).put (p := ⟨gw, 3, none⟩) (.inl rfl) _).put (p := ⟨gw, 4, none⟩) (.inl rfl) _
 have hV : Has V gw 42 #[c0, c1, c2, .int .i64 vx, .int .i64 vy, c5, c6, c7] := by rw [eV]; exact (HW1.out.put 3 _).put 4 _
 have HV := hid hV
 have KV := hid kV
 have HEV := hid eV
 clear eV kV hV
 go_wp2_with fail
 rw [← HEV.out]
 go_ret
 exact ⟨by first | rfl | trivial, (Made.but KW.out).then_ KV.out, HV.out⟩
theorem exec2 (id a b x y vx vy an sp de ln k r : Int) (ao : Option Addr) (n c : Nat) (w : World) (gw : Nat) (lgw : gw < w.heap.size) (R : Bool → World → Prop) (HA : ∀ v, Made w.heap.size w v → Calls Tryz.prog 37 #[.pointer (some ⟨gw, 0, none⟩), .int .i64 id] v fun e u => ∃ gone, e = .returned (.bool gone) ∧ R gone u) :
  Calls Tryz.prog 30 #[.pointer (some ⟨gw, 0, none⟩), .agg #[.int .i64 2, .int .i64 id, .int .i64 a, .int .i64 b, .int .i64 x, .int .i64 y, .int .i64 vx, .int .i64 vy, .int .i64 an, .int .i64 sp, .int .i64 de, .int .i64 ln, .int .i64 k, .int .i64 r, .slice ao n c]] w fun e v => e = .returned (.int .i64 0) ∧ ∃ gone, R gone v := by
 have HA := hid HA
 obtain ⟨W, eW⟩ : ∃ W, W = w.alloc (.cells #[.int .i64 2, .int .i64 id, .int .i64 a, .int .i64 b, .int .i64 x, .int .i64 y, .int .i64 vx, .int .i64 vy, .int .i64 an, .int .i64 sp, .int .i64 de, .int .i64 ln, .int .i64 k, .int .i64 r, .slice ao n c] 49) := ⟨_, rfl⟩
 have KW : Hid (Made w.heap.size w W) := by unfold Hid; rw [eW]; exact (Made.rfl_ _ _).cells (Nat.le_refl _) _ _
 have HB : Hid (Has W w.heap.size 49 #[.int .i64 2, .int .i64 id, .int .i64 a, .int .i64 b, .int .i64 x, .int .i64 y, .int .i64 vx, .int .i64 vy, .int .i64 an, .int .i64 sp, .int .i64 de, .int .i64 ln, .int .i64 k, .int .i64 r, .slice ao n c]) := by unfold Hid; rw [eW]; exact has_new _ _ _
 obtain ⟨g1, eg1⟩ : ∃ g, w.heap.size = g := ⟨_, rfl⟩
 have HG1 := hid eg1
 rw [eg1] at HB
 have b_0 := HB.out.at_ 0
 have b_1 := HB.out.at_ 1
 have b_2 := HB.out.at_ 2
 have b_3 := HB.out.at_ 3
 have b_4 := HB.out.at_ 4
 have b_5 := HB.out.at_ 5
 have b_6 := HB.out.at_ 6
 have b_7 := HB.out.at_ 7
 have b_8 := HB.out.at_ 8
 have b_9 := HB.out.at_ 9
 have b_10 := HB.out.at_ 10
 have b_11 := HB.out.at_ 11
 have b_12 := HB.out.at_ 12
 have b_13 := HB.out.at_ 13
 have b_14 := HB.out.at_ 14
 simp at b_0 b_1 b_2 b_3 b_4 b_5 b_6 b_7 b_8 b_9 b_10 b_11 b_12 b_13 b_14
 have l1 : g1 < W.heap.size := HB.out.here
 go_enter Tryz.func30, Tryz.ntmps30
 go_upto_region 1 with fail
 rw [← eW]
 clear eW
 try rw [eg1]
 clear eg1
 have lw : gw < W.heap.size := Nat.lt_of_lt_of_le lgw KW.out.1.size
 go_wp2_with fail
 refine (HA.out _ KW.out).mono ?_
 rintro e w1 ⟨gone, rfl, hR⟩
 have HR := hid hR
 clear hR b_0 b_1 b_2 b_3 b_4 b_5 b_6 b_7 b_8 b_9 b_10 b_11 b_12 b_13 b_14 l1 lw
 go_wp2_with fail
 go_ret
 exact ⟨by first | rfl | trivial, gone, HR.out⟩
theorem exec4 (id a b x y vx vy an sp de ln k r : Int) (ao : Option Addr) (n c : Nat) (w : World) (gw : Nat) (lgw : gw < w.heap.size) (R : Bool → World → Prop) (HA : ∀ v, Made w.heap.size w v → Calls Tryz.prog 38 #[.pointer (some ⟨gw, 0, none⟩), .int .i64 id] v fun e u => ∃ gone, e = .returned (.bool gone) ∧ R gone u) :
  Calls Tryz.prog 30 #[.pointer (some ⟨gw, 0, none⟩), .agg #[.int .i64 4, .int .i64 id, .int .i64 a, .int .i64 b, .int .i64 x, .int .i64 y, .int .i64 vx, .int .i64 vy, .int .i64 an, .int .i64 sp, .int .i64 de, .int .i64 ln, .int .i64 k, .int .i64 r, .slice ao n c]] w fun e v => e = .returned (.int .i64 0) ∧ ∃ gone, R gone v := by
 have HA := hid HA
 obtain ⟨W, eW⟩ : ∃ W, W = w.alloc (.cells #[.int .i64 4, .int .i64 id, .int .i64 a, .int .i64 b, .int .i64 x, .int .i64 y, .int .i64 vx, .int .i64 vy, .int .i64 an, .int .i64 sp, .int .i64 de, .int .i64 ln, .int .i64 k, .int .i64 r, .slice ao n c] 49) := ⟨_, rfl⟩
 have KW : Hid (Made w.heap.size w W) := by unfold Hid; rw [eW]; exact (Made.rfl_ _ _).cells (Nat.le_refl _) _ _
 have HB : Hid (Has W w.heap.size 49 #[.int .i64 4, .int .i64 id, .int .i64 a, .int .i64 b, .int .i64 x, .int .i64 y, .int .i64 vx, .int .i64 vy, .int .i64 an, .int .i64 sp, .int .i64 de, .int .i64 ln, .int .i64 k, .int .i64 r, .slice ao n c]) := by unfold Hid; rw [eW]; exact has_new _ _ _
 obtain ⟨g1, eg1⟩ : ∃ g, w.heap.size = g := ⟨_, rfl⟩
 have HG1 := hid eg1
 rw [eg1] at HB
 have b_0 := HB.out.at_ 0
 have b_1 := HB.out.at_ 1
 have b_2 := HB.out.at_ 2
 have b_3 := HB.out.at_ 3
 have b_4 := HB.out.at_ 4
 have b_5 := HB.out.at_ 5
 have b_6 := HB.out.at_ 6
 have b_7 := HB.out.at_ 7
 have b_8 := HB.out.at_ 8
 have b_9 := HB.out.at_ 9
 have b_10 := HB.out.at_ 10
 have b_11 := HB.out.at_ 11
 have b_12 := HB.out.at_ 12
 have b_13 := HB.out.at_ 13
 have b_14 := HB.out.at_ 14
 simp at b_0 b_1 b_2 b_3 b_4 b_5 b_6 b_7 b_8 b_9 b_10 b_11 b_12 b_13 b_14
 have l1 : g1 < W.heap.size := HB.out.here
 go_enter Tryz.func30, Tryz.ntmps30
 go_upto_region 1 with fail
 rw [← eW]
 clear eW
 try rw [eg1]
 clear eg1
 have lw : gw < W.heap.size := Nat.lt_of_lt_of_le lgw KW.out.1.size
 go_wp2_with fail
 refine (HA.out _ KW.out).mono ?_
 rintro e w1 ⟨gone, rfl, hR⟩
 have HR := hid hR
 clear hR b_0 b_1 b_2 b_3 b_4 b_5 b_6 b_7 b_8 b_9 b_10 b_11 b_12 b_13 b_14 l1 lw
 go_wp2_with fail
 go_ret
 exact ⟨by first | rfl | trivial, gone, HR.out⟩
theorem exec1 (id a b x y vx vy an sp de ln k r : Int) (ao : Option Addr) (n c : Nat) (w : World) (gw : Nat) (lgw : gw < w.heap.size) (R : Int → Int → World → Prop) (HA : ∀ v, Made w.heap.size w v → Calls Tryz.prog 39 #[.pointer (some ⟨gw, 0, none⟩), bodyV 0 x y vx vy an sp de k r (.slice ao n c)] v fun e u => ∃ nn er, e = .returned (.tuple #[.int .i64 nn, .int .i64 er]) ∧ R nn er u) :
  Calls Tryz.prog 30 #[.pointer (some ⟨gw, 0, none⟩), .agg #[.int .i64 1, .int .i64 id, .int .i64 a, .int .i64 b, .int .i64 x, .int .i64 y, .int .i64 vx, .int .i64 vy, .int .i64 an, .int .i64 sp, .int .i64 de, .int .i64 ln, .int .i64 k, .int .i64 r, .slice ao n c]] w fun e v => ∃ nn er, e = .returned (.int .i64 er) ∧ R nn er v := by
 have HA := hid HA
 have HC := hid (fun v => obody_c 1 id a b x y vx vy an sp de ln k r ao n c v)
 obtain ⟨W, eW⟩ : ∃ W, W = w.alloc (.cells #[.int .i64 1, .int .i64 id, .int .i64 a, .int .i64 b, .int .i64 x, .int .i64 y, .int .i64 vx, .int .i64 vy, .int .i64 an, .int .i64 sp, .int .i64 de, .int .i64 ln, .int .i64 k, .int .i64 r, .slice ao n c] 49) := ⟨_, rfl⟩
 have KW : Hid (Made w.heap.size w W) := by unfold Hid; rw [eW]; exact (Made.rfl_ _ _).cells (Nat.le_refl _) _ _
 have HB : Hid (Has W w.heap.size 49 #[.int .i64 1, .int .i64 id, .int .i64 a, .int .i64 b, .int .i64 x, .int .i64 y, .int .i64 vx, .int .i64 vy, .int .i64 an, .int .i64 sp, .int .i64 de, .int .i64 ln, .int .i64 k, .int .i64 r, .slice ao n c]) := by unfold Hid; rw [eW]; exact has_new _ _ _
 obtain ⟨g1, eg1⟩ : ∃ g, w.heap.size = g := ⟨_, rfl⟩
 have HG1 := hid eg1
 rw [eg1] at HB
 have b_0 := HB.out.at_ 0
 have b_1 := HB.out.at_ 1
 have b_2 := HB.out.at_ 2
 have b_3 := HB.out.at_ 3
 have b_4 := HB.out.at_ 4
 have b_5 := HB.out.at_ 5
 have b_6 := HB.out.at_ 6
 have b_7 := HB.out.at_ 7
 have b_8 := HB.out.at_ 8
 have b_9 := HB.out.at_ 9
 have b_10 := HB.out.at_ 10
 have b_11 := HB.out.at_ 11
 have b_12 := HB.out.at_ 12
 have b_13 := HB.out.at_ 13
 have b_14 := HB.out.at_ 14
 simp at b_0 b_1 b_2 b_3 b_4 b_5 b_6 b_7 b_8 b_9 b_10 b_11 b_12 b_13 b_14
 have l1 : g1 < W.heap.size := HB.out.here
 go_enter Tryz.func30, Tryz.ntmps30
 go_upto_region 1 with fail
 rw [← eW]
 clear eW
 try rw [eg1]
 clear eg1
 have lw : gw < W.heap.size := Nat.lt_of_lt_of_le lgw KW.out.1.size
 go_wp2_with fail
 refine (HC.out _).mono ?_
 rintro e w1 ⟨rfl, k1⟩
 have K1 := hid (KW.out.then_ (k1.low KW.out.1.size))
 clear k1 b_0 b_1 b_2 b_3 b_4 b_5 b_6 b_7 b_8 b_9 b_10 b_11 b_12 b_13 b_14 l1 lw
 go_wp2_with fail
 refine (HA.out _ (by first | exact K1.out | exact HG1.out ▸ K1.out)).mono ?_
 rintro e w2 ⟨nn, er, rfl, hR⟩
 have HR := hid hR
 clear hR
 go_wp2_with fail
 go_ret
 exact ⟨nn, er, by first | rfl | trivial, HR.out⟩
theorem exec3 (id a b x y vx vy an sp de ln k r : Int) (ao : Option Addr) (n c : Nat) (w : World) (gw : Nat) (lgw : gw < w.heap.size) (R : Int → Int → World → Prop) (HA : ∀ v, Made w.heap.size w v → Calls Tryz.prog 35 #[.pointer (some ⟨gw, 0, none⟩), .agg #[.int .i64 0, .int .i64 a, .int .i64 b, .int .i64 x, .int .i64 y, .int .i64 vx, .int .i64 vy, .int .i64 ln]] v fun e u => ∃ nn er, e = .returned (.tuple #[.int .i64 nn, .int .i64 er]) ∧ R nn er u) :
  Calls Tryz.prog 30 #[.pointer (some ⟨gw, 0, none⟩), .agg #[.int .i64 3, .int .i64 id, .int .i64 a, .int .i64 b, .int .i64 x, .int .i64 y, .int .i64 vx, .int .i64 vy, .int .i64 an, .int .i64 sp, .int .i64 de, .int .i64 ln, .int .i64 k, .int .i64 r, .slice ao n c]] w fun e v => ∃ nn er, e = .returned (.int .i64 er) ∧ R nn er v := by
 have HA := hid HA
 have HC := hid (fun v => ojoint_c 3 id a b x y vx vy an sp de ln k r ao n c v)
 obtain ⟨W, eW⟩ : ∃ W, W = w.alloc (.cells #[.int .i64 3, .int .i64 id, .int .i64 a, .int .i64 b, .int .i64 x, .int .i64 y, .int .i64 vx, .int .i64 vy, .int .i64 an, .int .i64 sp, .int .i64 de, .int .i64 ln, .int .i64 k, .int .i64 r, .slice ao n c] 49) := ⟨_, rfl⟩
 have KW : Hid (Made w.heap.size w W) := by unfold Hid; rw [eW]; exact (Made.rfl_ _ _).cells (Nat.le_refl _) _ _
 have HB : Hid (Has W w.heap.size 49 #[.int .i64 3, .int .i64 id, .int .i64 a, .int .i64 b, .int .i64 x, .int .i64 y, .int .i64 vx, .int .i64 vy, .int .i64 an, .int .i64 sp, .int .i64 de, .int .i64 ln, .int .i64 k, .int .i64 r, .slice ao n c]) := by unfold Hid; rw [eW]; exact has_new _ _ _
 obtain ⟨g1, eg1⟩ : ∃ g, w.heap.size = g := ⟨_, rfl⟩
 have HG1 := hid eg1
 rw [eg1] at HB
 have b_0 := HB.out.at_ 0
 have b_1 := HB.out.at_ 1
 have b_2 := HB.out.at_ 2
 have b_3 := HB.out.at_ 3
 have b_4 := HB.out.at_ 4
 have b_5 := HB.out.at_ 5
 have b_6 := HB.out.at_ 6
 have b_7 := HB.out.at_ 7
 have b_8 := HB.out.at_ 8
 have b_9 := HB.out.at_ 9
 have b_10 := HB.out.at_ 10
 have b_11 := HB.out.at_ 11
 have b_12 := HB.out.at_ 12
 have b_13 := HB.out.at_ 13
 have b_14 := HB.out.at_ 14
 simp at b_0 b_1 b_2 b_3 b_4 b_5 b_6 b_7 b_8 b_9 b_10 b_11 b_12 b_13 b_14
 have l1 : g1 < W.heap.size := HB.out.here
 go_enter Tryz.func30, Tryz.ntmps30
 go_upto_region 1 with fail
 rw [← eW]
 clear eW
 try rw [eg1]
 clear eg1
 have lw : gw < W.heap.size := Nat.lt_of_lt_of_le lgw KW.out.1.size
 go_wp2_with fail
 refine (HC.out _).mono ?_
 rintro e w1 ⟨rfl, k1⟩
 have K1 := hid (KW.out.then_ (k1.low KW.out.1.size))
 clear k1 b_0 b_1 b_2 b_3 b_4 b_5 b_6 b_7 b_8 b_9 b_10 b_11 b_12 b_13 b_14 l1 lw
 go_wp2_with fail
 refine (HA.out _ (by first | exact K1.out | exact HG1.out ▸ K1.out)).mono ?_
 rintro e w2 ⟨nn, er, rfl, hR⟩
 have HR := hid hR
 clear hR
 go_wp2_with fail
 go_ret
 exact ⟨nn, er, by first | rfl | trivial, HR.out⟩
end Go.Proofs.YtjecadafjnbijaaGreat.Fx
/- The anchor of layer 10: one Pull on a new world. -/
namespace Go.Proofs.YtjecadafjnbijaaGreat.Fx
open Go.ChangeShapes Go.WideShapes Go.ChangeAt Go.RowKit
set_option linter.unusedVariables false
def pullO : Or := ⟨6, 0, 0, 0, 0, 0, 0, (-4294967296), 0, 0, 0, 0, 0, 0, none, 0, 0, fun _ => (0, 0)⟩
theorem pull_ok : OrderP pullO := .inr (.inr (.inr (.inr ⟨rfl, ⟨rfl, rfl, rfl, rfl, rfl⟩, rfl, rfl, rfl, ⟨rfl, rfl⟩, rfl, rfl, by unfold Inn pullO; simp, by unfold Inn pullO; simp⟩)))
theorem pull_i : OrI pullO := ⟨by unfold I64 pullO; simp, by unfold I64 pullO; simp, by unfold I64 pullO; simp, by unfold I64 pullO; simp, by unfold I64 pullO; simp, by unfold I64 pullO; simp, by unfold I64 pullO; simp, by unfold I64 pullO; simp, by unfold I64 pullO; simp, by unfold I64 pullO; simp, by unfold I64 pullO; simp, by unfold I64 pullO; simp, by unfold I64 pullO; simp, by unfold I64 pullO; simp, fun i hi => absurd hi (by simp [pullO])⟩
theorem after1_c (gs : Nat) (w : World) (hO : Has w gs 49 #[.int .i64 6, .int .i64 0, .int .i64 0, .int .i64 0, .int .i64 0, .int .i64 0, .int .i64 0, .int .i64 (-4294967296), .int .i64 0, .int .i64 0, .int .i64 0, .int .i64 0, .int .i64 0, .int .i64 0, .slice none 0 0]) :
  Calls Tryz.prog 25 #[wdV 0 1 1 0 0 (.slice none 0 0) (.slice none 0 0) (.slice none 0 0), .slice (some ⟨gs, 0, none⟩) 1 1] w fun e v => e = .returned (.tuple #[wdV 0 1 1 0 (-4294967296) (.slice none 0 0) (.slice none 0 0) (.slice none 0 0), .int .i64 0]) ∧ Made w.heap.size w v := by
 have hors : ∀ v, Made w.heap.size w v → OrsAt v (some ⟨gs, 0, none⟩) [pullO] := fun v k => by
  have h := hO.stays k hO.here
  refine ⟨fun _ => ⟨gs, 0, rfl, h.here, fun i x hx j u hu => ?_⟩, fun x hx => ?_⟩
  ·match i, hx with
   | 0, hx =>
    cases hx
    rw [show 0 + 0 * 15 + j = j by omega, h.at_]
    simpa [encO, pullO] using hu
  ·rw [List.mem_singleton.1 hx]
   exact ⟨pull_i, by simp [pullO], fun hn => absurd hn (by simp [pullO])⟩
 have HAW := hid (fun v (k : Made w.heap.size w v) => anyWrong_c (l := [pullO]) (n := 1) (c := 1) rfl (by omega) (hors v k))
 have HO := hid (fun v (k : Made w.heap.size w v) => hO.stays k hO.here)
 clear hors hO
 obtain ⟨W, eW⟩ : ∃ W, W = (w.alloc (.cells #[.int .i64 0, .int .i64 1, .int .i64 1, .int .i64 0, .int .i64 0, .slice none 0 0, .slice none 0 0, .slice none 0 0] 42)).alloc (.cells #[.int .i64 0, .int .i64 0, .int .i64 0, .int .i64 0, .int .i64 0, .slice none 0 0, .slice none 0 0, .slice none 0 0] 42) := ⟨_, rfl⟩
 have KW : Hid (Made w.heap.size w W) := by unfold Hid; rw [eW]; exact ((Made.rfl_ _ _).cells (Nat.le_refl _) _ _).cells (by simp) _ _
 have HB : Hid (Has W w.heap.size 42 #[.int .i64 0, .int .i64 1, .int .i64 1, .int .i64 0, .int .i64 0, .slice none 0 0, .slice none 0 0, .slice none 0 0]) := by unfold Hid; rw [eW]; exact (has_new _ _ _).more _
 have HR : Hid (Has W (w.heap.size + 1) 42 #[.int .i64 0, .int .i64 0, .int .i64 0, .int .i64 0, .int .i64 0, .slice none 0 0, .slice none 0 0, .slice none 0 0]) := by unfold Hid; rw [eW]; exact has_nxt' _ _ _ _
 obtain ⟨g1, eg1⟩ : ∃ g, w.heap.size = g := ⟨_, rfl⟩
 obtain ⟨g2, eg2⟩ : ∃ g, g1 + 1 = g := ⟨_, rfl⟩
 have hw1 : w.heap.size ≤ g1 := Nat.le_of_eq eg1
 have hw2 : w.heap.size ≤ g2 := by omega
 have hne : ¬ g2 = g1 := by omega
 rw [eg1] at HB
 rw [eg1, eg2] at HR
 go_enter Tryz.func25, Tryz.ntmps25
 go_upto_region 1 with fail
 rw [← eW]
 clear eW
 try rw [eg1]
 try rw [eg2]
 clear eg1 eg2
 go_wp2_with fail
 refine (HAW.out _ KW.out).mono ?_
 rintro e w1 ⟨r, rfl, k1, hr⟩
 have hrf : r = false := Bool.eq_false_iff.2 fun h => by
  obtain ⟨x, hx, hn⟩ := hr.1 h
  rw [List.mem_singleton.1 hx] at hn
  exact hn pull_ok
 subst hrf
 have K1 := hid (KW.out.then_ (k1.low KW.out.1.size))
 have HB1 := hid (HB.out.stays k1 HB.out.here)
 have HR1 := hid (HR.out.stays k1 HR.out.here)
 clear hr k1 HB HR KW
 have b0 := HB1.out.at_ 0
 have b1 := HB1.out.at_ 1
 have b2 := HB1.out.at_ 2
 have b3 := HB1.out.at_ 3
 have b4 := HB1.out.at_ 4
 have b5 := HB1.out.at_ 5
 have b6 := HB1.out.at_ 6
 have b7 := HB1.out.at_ 7
 simp at b0 b1 b2 b3 b4 b5 b6 b7
 have l1 : g1 < w1.heap.size := HB1.out.here
 go_wp2_with fail
 clear b0 b1 b2 b3 b4 b5 b6 b7 l1
 go_loopg [7, 21] 1 (fun gg s7 s21 wx => ∃ k : Nat, k + gg = 1 ∧ s21 = .int .i64 (k : Nat) ∧ Hid (Made w.heap.size w wx ∧ Has wx g2 42 #[.int .i64 0, .int .i64 0, .int .i64 0, .int .i64 0, .int .i64 0, .slice none 0 0, .slice none 0 0, .slice none 0 0] ∧ (k = 0 → Has wx g1 42 #[.int .i64 0, .int .i64 1, .int .i64 1, .int .i64 0, .int .i64 0, .slice none 0 0, .slice none 0 0, .slice none 0 0]) ∧ (k = 1 → Has wx g1 42 #[.int .i64 0, .int .i64 1, .int .i64 1, .int .i64 0, .int .i64 (-4294967296), .slice none 0 0, .slice none 0 0, .slice none 0 0])))
 case atStart => exact ⟨0, rfl, rfl, K1.out, HR1.out, fun _ => HB1.out, fun h => by omega⟩
 case round =>
  obtain ⟨k, hk, rfl, HH⟩ := hrel
  by_cases h0 : k = 0
  ·subst h0
   have HBk := hid (HH.out.2.2.1 rfl)
   have HRk := hid HH.out.2.1
   have HOk := hid (HO.out _ HH.out.1)
   have p0 := HOk.out.at_ 0
   have p1 := HOk.out.at_ 1
   have p2 := HOk.out.at_ 2
   have p3 := HOk.out.at_ 3
   have p4 := HOk.out.at_ 4
   have p5 := HOk.out.at_ 5
   have p6 := HOk.out.at_ 6
   have p7 := HOk.out.at_ 7
   have p8 := HOk.out.at_ 8
   have p9 := HOk.out.at_ 9
   have p10 := HOk.out.at_ 10
   have p11 := HOk.out.at_ 11
   have p12 := HOk.out.at_ 12
   have p13 := HOk.out.at_ 13
   have p14 := HOk.out.at_ 14
   simp at p0 p1 p2 p3 p4 p5 p6 p7 p8 p9 p10 p11 p12 p13 p14
   have lp : gs < wr.heap.size := HOk.out.here
   obtain ⟨W2, eW2⟩ : ∃ V, V = wr.alloc (.cells #[.int .i64 6, .int .i64 0, .int .i64 0, .int .i64 0, .int .i64 0, .int .i64 0, .int .i64 0, .int .i64 (-4294967296), .int .i64 0, .int .i64 0, .int .i64 0, .int .i64 0, .int .i64 0, .int .i64 0, .slice none 0 0] 49) := ⟨_, rfl⟩
   have kk2 : Made wr.heap.size wr W2 := by rw [eW2]; exact (Made.rfl_ _ _).cells (Nat.le_refl _) _ _
   have HX2 : Hid (Has W2 wr.heap.size 49 #[.int .i64 6, .int .i64 0, .int .i64 0, .int .i64 0, .int .i64 0, .int .i64 0, .int .i64 0, .int .i64 (-4294967296), .int .i64 0, .int .i64 0, .int .i64 0, .int .i64 0, .int .i64 0, .int .i64 0, .slice none 0 0]) := by unfold Hid; rw [eW2]; exact has_new _ _ _
   have K2 := hid (HH.out.1.then_ (kk2.low HH.out.1.1.size))
   have HB2 := hid (HBk.out.stays kk2 HBk.out.here)
   have HR2 := hid (HRk.out.stays kk2 HRk.out.here)
   obtain ⟨g3, eg3⟩ : ∃ g, wr.heap.size = g := ⟨_, rfl⟩
   rw [eg3] at HX2
   clear kk2
   go_upto_region 10 with fail
   rw [← eW2]
   clear eW2 p0 p1 p2 p3 p4 p5 p6 p7 p8 p9 p10 p11 p12 p13 p14 lp HBk HRk HOk
   try rw [eg3]
   clear eg3
   have p0 := HX2.out.at_ 0
   have p1 := HX2.out.at_ 1
   have p2 := HX2.out.at_ 2
   have p3 := HX2.out.at_ 3
   have p4 := HX2.out.at_ 4
   have p5 := HX2.out.at_ 5
   have p6 := HX2.out.at_ 6
   have p7 := HX2.out.at_ 7
   have p8 := HX2.out.at_ 8
   have p9 := HX2.out.at_ 9
   have p10 := HX2.out.at_ 10
   have p11 := HX2.out.at_ 11
   have p12 := HX2.out.at_ 12
   have p13 := HX2.out.at_ 13
   have p14 := HX2.out.at_ 14
   simp at p0 p1 p2 p3 p4 p5 p6 p7 p8 p9 p10 p11 p12 p13 p14
   have lp : g3 < W2.heap.size := HX2.out.here
   have HEx := hid (exec6 0 0 0 0 0 0 (-4294967296) 0 0 0 0 0 0 none 0 0 W2 g1 HB2.out.here HB2.out)
   go_wp2_with fail
   refine HEx.out.mono ?_
   rintro e w3 ⟨rfl, kb, hh⟩
   have K3 : Hid (Made w.heap.size w w3) := But.made_ K2.out kb K2.out.1.size (fun b hb => by have hb : b = g1 := hb; omega)
   have HR3 := hid (HR2.out.but kb hne)
   have HB3 := hid hh
   clear kb hh p0 p1 p2 p3 p4 p5 p6 p7 p8 p9 p10 p11 p12 p13 p14 lp HEx HX2 HB2 HR2 K2
   go_wp2_with fail
   go_roundg 0
   case measure => omega
   case rel => exact ⟨1, rfl, by go_num, K3.out, HR3.out, fun h => by omega, fun _ => HB3.out⟩
  ·have h1 : k = 1 := by omega
   subst h1
   have HBk := hid (HH.out.2.2.2 rfl)
   have HRk := hid HH.out.2.1
   have b0 := HBk.out.at_ 0
   have b1 := HBk.out.at_ 1
   have b2 := HBk.out.at_ 2
   have b3 := HBk.out.at_ 3
   have b4 := HBk.out.at_ 4
   have b5 := HBk.out.at_ 5
   have b6 := HBk.out.at_ 6
   have b7 := HBk.out.at_ 7
   simp at b0 b1 b2 b3 b4 b5 b6 b7
   have l1 : g1 < wr.heap.size := HBk.out.here
   have r_0 := HRk.out.at_ 0
   have r_1 := HRk.out.at_ 1
   have r_2 := HRk.out.at_ 2
   have r_3 := HRk.out.at_ 3
   have r_4 := HRk.out.at_ 4
   have r_5 := HRk.out.at_ 5
   have r_6 := HRk.out.at_ 6
   have r_7 := HRk.out.at_ 7
   simp at r_0 r_1 r_2 r_3 r_4 r_5 r_6 r_7
   have l2 : g2 < wr.heap.size := HRk.out.here
   have f2 : ∀ i, wr.frozen? ⟨g2, i, none⟩ = false := HRk.out.free
   go_wp2_with fail
   obtain ⟨V, eV⟩ : ∃ V, V = ((((((((wr).setCell ⟨g2, 0, none⟩ (.int .i64 0)).setCell ⟨g2, 1, none⟩ (.int .i64 1)).setCell ⟨g2, 2, none⟩ (.int .i64 1)).setCell ⟨g2, 3, none⟩ (.int .i64 0)).setCell ⟨g2, 4, none⟩ (.int .i64 (-4294967296))).setCell ⟨g2, 5, none⟩ (.slice none 0 0)).setCell ⟨g2, 6, none⟩ (.slice none 0 0)).setCell ⟨g2, 7, none⟩ (.slice none 0 0) := ⟨_, rfl⟩
   have kV : But (fun b => b = g2) wr V := by rw [eV]; exact (((((((((But.rfl_ (fun b => b = g2) wr).put (p := ⟨g2, 0, none⟩) (.inl rfl) _).put (p := ⟨g2, 1, none⟩) (.inl rfl) _).put (p := ⟨g2, 2, none⟩) (.inl rfl) _).put (p := ⟨g2, 3, none⟩) (.inl rfl) _).put (p := ⟨g2, 4, none⟩) (.inl rfl) _).put (p := ⟨g2, 5, none⟩) (.inl rfl) _).put (p := ⟨g2, 6, none⟩) (.inl rfl) _).put (p := ⟨g2, 7, none⟩) (.inl rfl) _)
   have hV : Has V g2 42 #[.int .i64 0, .int .i64 1, .int .i64 1, .int .i64 0, .int .i64 (-4294967296), .slice none 0 0, .slice none 0 0, .slice none 0 0] := by rw [eV]; exact (((((((HRk.out.put 0 _).put 1 _).put 2 _).put 3 _).put 4 _).put 5 _).put 6 _).put 7 _
   have KV : Made w.heap.size w V := But.made_ HH.out.1 kV HH.out.1.1.size (fun b hb => by have hb : b = g2 := hb; omega)
   try rw [← eV]
   clear eV b0 b1 b2 b3 b4 b5 b6 b7 l1 r_0 r_1 r_2 r_3 r_4 r_5 r_6 r_7 l2 f2
   have q0 := hV.at_ 0
   have q1 := hV.at_ 1
   have q2 := hV.at_ 2
   have q3 := hV.at_ 3
   have q4 := hV.at_ 4
   have q5 := hV.at_ 5
   have q6 := hV.at_ 6
   have q7 := hV.at_ 7
   simp at q0 q1 q2 q3 q4 q5 q6 q7
   exact bodyPost_ret (v := .tuple #[wdV 0 1 1 0 (-4294967296) (.slice none 0 0) (.slice none 0 0) (.slice none 0 0), .int .i64 0]) (by simp [results, Tryz.results25, go_sem, q0, q1, q2, q3, q4, q5, q6, q7]) rfl ⟨rfl, KV⟩
theorem all1_c (gs : Nat) (w : World) (hO : Has w gs 49 #[.int .i64 6, .int .i64 0, .int .i64 0, .int .i64 0, .int .i64 0, .int .i64 0, .int .i64 0, .int .i64 (-4294967296), .int .i64 0, .int .i64 0, .int .i64 0, .int .i64 0, .int .i64 0, .int .i64 0, .slice none 0 0]) :
  Calls Tryz.prog 10 #[wdV 0 1 1 0 0 (.slice none 0 0) (.slice none 0 0) (.slice none 0 0), .slice (some ⟨gs, 0, none⟩) 1 1] w fun e v => ∃ ob oj oc cb cj cc, e = .returned (.tuple #[wdV 0 1 1 0 (-4294967296) (.slice ob 0 cb) (.slice oj 0 cj) (.slice oc 0 cc), .int .i64 0]) ∧ Made w.heap.size w v := by
 have HA := hid (fun v (k : Made w.heap.size w v) => after1_c gs v (hO.stays k hO.here))
 have HCp := hid (fun v => wcopy_c 0 1 1 0 (-4294967296) none none none 0 0 0 0 0 0 (B := []) (J := []) (C := []) (w := v) (ls_new Nil0 v) rfl rfl rfl (by omega) (by omega) (by omega) (fun b hb => by simp at hb))
 clear hO
 obtain ⟨W, eW⟩ : ∃ W, W = (w.alloc (.cells #[.int .i64 0, .int .i64 1, .int .i64 1, .int .i64 0, .int .i64 0, .slice none 0 0, .slice none 0 0, .slice none 0 0] 42)).alloc (.cells #[.int .i64 0, .int .i64 0, .int .i64 0, .int .i64 0, .int .i64 0, .slice none 0 0, .slice none 0 0, .slice none 0 0] 42) := ⟨_, rfl⟩
 have KW : Hid (Made w.heap.size w W) := by unfold Hid; rw [eW]; exact ((Made.rfl_ _ _).cells (Nat.le_refl _) _ _).cells (by simp) _ _
 have HB : Hid (Has W w.heap.size 42 #[.int .i64 0, .int .i64 1, .int .i64 1, .int .i64 0, .int .i64 0, .slice none 0 0, .slice none 0 0, .slice none 0 0]) := by unfold Hid; rw [eW]; exact (has_new _ _ _).more _
 have HR : Hid (Has W (w.heap.size + 1) 42 #[.int .i64 0, .int .i64 0, .int .i64 0, .int .i64 0, .int .i64 0, .slice none 0 0, .slice none 0 0, .slice none 0 0]) := by unfold Hid; rw [eW]; exact has_nxt' _ _ _ _
 obtain ⟨g1, eg1⟩ : ∃ g, w.heap.size = g := ⟨_, rfl⟩
 obtain ⟨g2, eg2⟩ : ∃ g, g1 + 1 = g := ⟨_, rfl⟩
 have hw1 : w.heap.size ≤ g1 := Nat.le_of_eq eg1
 have hw2 : w.heap.size ≤ g2 := by omega
 have hne : ¬ g2 = g1 := by omega
 rw [eg1] at HB
 rw [eg1, eg2] at HR
 have b0 := HB.out.at_ 0
 have b1 := HB.out.at_ 1
 have b2 := HB.out.at_ 2
 have b3 := HB.out.at_ 3
 have b4 := HB.out.at_ 4
 have b5 := HB.out.at_ 5
 have b6 := HB.out.at_ 6
 have b7 := HB.out.at_ 7
 simp at b0 b1 b2 b3 b4 b5 b6 b7
 have l1 : g1 < W.heap.size := HB.out.here
 go_enter Tryz.func10, Tryz.ntmps10
 go_upto_region 1 with fail
 rw [← eW]
 clear eW
 try rw [eg1]
 try rw [eg2]
 clear eg1 eg2
 go_wp2_with fail
 refine (HA.out _ KW.out).mono ?_
 rintro e w1 ⟨rfl, k1⟩
 have K1 := hid (KW.out.then_ (k1.low KW.out.1.size))
 have HB1 := hid (HB.out.stays k1 HB.out.here)
 have HR1 := hid (HR.out.stays k1 HR.out.here)
 clear k1 HB HR KW b0 b1 b2 b3 b4 b5 b6 b7 l1
 have b0 := HB1.out.at_ 0
 have b1 := HB1.out.at_ 1
 have b2 := HB1.out.at_ 2
 have b3 := HB1.out.at_ 3
 have b4 := HB1.out.at_ 4
 have b5 := HB1.out.at_ 5
 have b6 := HB1.out.at_ 6
 have b7 := HB1.out.at_ 7
 simp at b0 b1 b2 b3 b4 b5 b6 b7
 have l1 : g1 < w1.heap.size := HB1.out.here
 have f1 : ∀ i, w1.frozen? ⟨g1, i, none⟩ = false := HB1.out.free
 obtain ⟨V, eV⟩ : ∃ V, V = ((((((((w1).setCell ⟨g1, 0, none⟩ (.int .i64 0)).setCell ⟨g1, 1, none⟩ (.int .i64 1)).setCell ⟨g1, 2, none⟩ (.int .i64 1)).setCell ⟨g1, 3, none⟩ (.int .i64 0)).setCell ⟨g1, 4, none⟩ (.int .i64 (-4294967296))).setCell ⟨g1, 5, none⟩ (.slice none 0 0)).setCell ⟨g1, 6, none⟩ (.slice none 0 0)).setCell ⟨g1, 7, none⟩ (.slice none 0 0) := ⟨_, rfl⟩
 have kV : But (fun b => b = g1) w1 V := by rw [eV]; exact (((((((((But.rfl_ (fun b => b = g1) w1).put (p := ⟨g1, 0, none⟩) (.inl rfl) _).put (p := ⟨g1, 1, none⟩) (.inl rfl) _).put (p := ⟨g1, 2, none⟩) (.inl rfl) _).put (p := ⟨g1, 3, none⟩) (.inl rfl) _).put (p := ⟨g1, 4, none⟩) (.inl rfl) _).put (p := ⟨g1, 5, none⟩) (.inl rfl) _).put (p := ⟨g1, 6, none⟩) (.inl rfl) _).put (p := ⟨g1, 7, none⟩) (.inl rfl) _)
 have hV : Has V g1 42 #[.int .i64 0, .int .i64 1, .int .i64 1, .int .i64 0, .int .i64 (-4294967296), .slice none 0 0, .slice none 0 0, .slice none 0 0] := by rw [eV]; exact (((((((HB1.out.put 0 _).put 1 _).put 2 _).put 3 _).put 4 _).put 5 _).put 6 _).put 7 _
 have K2 : Hid (Made w.heap.size w V) := But.made_ K1.out kV K1.out.1.size (fun b hb => by have hb : b = g1 := hb; omega)
 have HB2 := hid hV
 have HR2 := hid (HR1.out.but kV hne)
 have HEV := hid eV
 clear eV kV hV
 go_upto_region 2 with fail
 rw [← HEV.out]
 clear b0 b1 b2 b3 b4 b5 b6 b7 l1 f1 HB1 HR1 HEV
 have b0 := HB2.out.at_ 0
 have b1 := HB2.out.at_ 1
 have b2 := HB2.out.at_ 2
 have b3 := HB2.out.at_ 3
 have b4 := HB2.out.at_ 4
 have b5 := HB2.out.at_ 5
 have b6 := HB2.out.at_ 6
 have b7 := HB2.out.at_ 7
 simp at b0 b1 b2 b3 b4 b5 b6 b7
 have l1 : g1 < V.heap.size := HB2.out.here
 go_wp2_with fail
 refine (HCp.out _).mono ?_
 rintro e w3 ⟨B', ob, oj, oc, cb, cj, cc, rfl, k3, hBl, _⟩
 have K3 := hid (K2.out.then_ (k3.low K2.out.1.size))
 have HR3 := hid (HR2.out.stays k3 HR2.out.here)
 clear k3 hBl b0 b1 b2 b3 b4 b5 b6 b7 l1 HCp HB2 HR2
 have r_0 := HR3.out.at_ 0
 have r_1 := HR3.out.at_ 1
 have r_2 := HR3.out.at_ 2
 have r_3 := HR3.out.at_ 3
 have r_4 := HR3.out.at_ 4
 have r_5 := HR3.out.at_ 5
 have r_6 := HR3.out.at_ 6
 have r_7 := HR3.out.at_ 7
 simp at r_0 r_1 r_2 r_3 r_4 r_5 r_6 r_7
 have l2 : g2 < w3.heap.size := HR3.out.here
 have f2 : ∀ i, w3.frozen? ⟨g2, i, none⟩ = false := HR3.out.free
 go_wp2_with fail
 obtain ⟨V2, eV2⟩ : ∃ V, V = ((((((((w3).setCell ⟨g2, 0, none⟩ (.int .i64 0)).setCell ⟨g2, 1, none⟩ (.int .i64 1)).setCell ⟨g2, 2, none⟩ (.int .i64 1)).setCell ⟨g2, 3, none⟩ (.int .i64 0)).setCell ⟨g2, 4, none⟩ (.int .i64 (-4294967296))).setCell ⟨g2, 5, none⟩ (.slice ob 0 cb)).setCell ⟨g2, 6, none⟩ (.slice oj 0 cj)).setCell ⟨g2, 7, none⟩ (.slice oc 0 cc) := ⟨_, rfl⟩
 have kV2 : But (fun b => b = g2) w3 V2 := by rw [eV2]; exact (((((((((But.rfl_ (fun b => b = g2) w3).put (p := ⟨g2, 0, none⟩) (.inl rfl) _).put (p := ⟨g2, 1, none⟩) (.inl rfl) _).put (p := ⟨g2, 2, none⟩) (.inl rfl) _).put (p := ⟨g2, 3, none⟩) (.inl rfl) _).put (p := ⟨g2, 4, none⟩) (.inl rfl) _).put (p := ⟨g2, 5, none⟩) (.inl rfl) _).put (p := ⟨g2, 6, none⟩) (.inl rfl) _).put (p := ⟨g2, 7, none⟩) (.inl rfl) _)
 have hV2 : Has V2 g2 42 #[.int .i64 0, .int .i64 1, .int .i64 1, .int .i64 0, .int .i64 (-4294967296), .slice ob 0 cb, .slice oj 0 cj, .slice oc 0 cc] := by rw [eV2]; exact (((((((HR3.out.put 0 _).put 1 _).put 2 _).put 3 _).put 4 _).put 5 _).put 6 _).put 7 _
 have KV2 : Made w.heap.size w V2 := But.made_ K3.out kV2 K3.out.1.size (fun b hb => by have hb : b = g2 := hb; omega)
 try rw [← eV2]
 clear eV2 r_0 r_1 r_2 r_3 r_4 r_5 r_6 r_7 l2 f2
 have q0 := hV2.at_ 0
 have q1 := hV2.at_ 1
 have q2 := hV2.at_ 2
 have q3 := hV2.at_ 3
 have q4 := hV2.at_ 4
 have q5 := hV2.at_ 5
 have q6 := hV2.at_ 6
 have q7 := hV2.at_ 7
 simp at q0 q1 q2 q3 q4 q5 q6 q7
 exact bodyPost_ret (v := .tuple #[wdV 0 1 1 0 (-4294967296) (.slice ob 0 cb) (.slice oj 0 cj) (.slice oc 0 cc), .int .i64 0]) (by simp [results, Tryz.results10, go_sem, q0, q1, q2, q3, q4, q5, q6, q7]) rfl ⟨ob, oj, oc, cb, cj, cc, rfl, KV2⟩
end Go.Proofs.YtjecadafjnbijaaGreat.Fx
/- The anchor of layer 10. -/
namespace Go.Proofs.YtjecadafjnbijaaGreat.Fx
open Go.ChangeShapes Go.WideShapes Go.ChangeAt Go.RowKit
set_option linter.unusedVariables false
theorem or_small (o : Or) (hn : o.n = 0) (h : ∀ z, z ∈ [o.kd, o.id, o.a, o.b, o.x, o.y, o.vx, o.vy, o.an, o.sp, o.de, o.ln, o.k, o.r] → -9223372036854775808 ≤ z ∧ z ≤ 9223372036854775807) : OrI o :=
 ⟨h _ (by simp), h _ (by simp), h _ (by simp), h _ (by simp), h _ (by simp), h _ (by simp), h _ (by simp), h _ (by simp), h _ (by simp), h _ (by simp), h _ (by simp), h _ (by simp), h _ (by simp), h _ (by simp), fun i hi => absurd hi (by omega)⟩
theorem fit10_c (w : World) : Calls Tryz.prog 5 #[] w fun e v => e = .returned (.bool true) ∧ Made w.heap.size w v := by
 have HN1 := hid (fun v => oright_c false (⟨6, 1, 0, 0, 0, 0, 0, 0, 0, 0, 0, 0, 0, 0, none, 0, 0, fun _ => (0, 0)⟩ : Or) (w := v) (by simp) (or_small _ rfl (by simp)) (fun hn => absurd hn (by simp)) (iff_of_false (by simp) (by simp [OrderP, BareO])))
 have HN0 := hid (fun v => oright_c false (⟨0, 0, 0, 0, 0, 0, 0, 0, 0, 0, 0, 0, 0, 0, none, 0, 0, fun _ => (0, 0)⟩ : Or) (w := v) (by simp) (or_small _ rfl (by simp)) (fun hn => absurd hn (by simp)) (iff_of_false (by simp) (by simp [OrderP, BareO])))
 go_enter Tryz.func5, Tryz.ntmps5
 go_wp2_with fail
 refine (new_c _).mono ?_
 rintro e w1 ⟨rfl, k1⟩
 have K1 := hid k1
 clear k1
 obtain ⟨W2, eW2⟩ : ∃ V, V = w1.alloc (.cells #[.int .i64 6, .int .i64 0, .int .i64 0, .int .i64 0, .int .i64 0, .int .i64 0, .int .i64 0, .int .i64 (-4294967296), .int .i64 0, .int .i64 0, .int .i64 0, .int .i64 0, .int .i64 0, .int .i64 0, .slice none 0 0] 49) := ⟨_, rfl⟩
 have K2 : Hid (Made w.heap.size w W2) := by unfold Hid; rw [eW2]; exact K1.out.cells K1.out.1.size _ _
 have HO2 : Hid (Has W2 w1.heap.size 49 #[.int .i64 6, .int .i64 0, .int .i64 0, .int .i64 0, .int .i64 0, .int .i64 0, .int .i64 0, .int .i64 (-4294967296), .int .i64 0, .int .i64 0, .int .i64 0, .int .i64 0, .int .i64 0, .int .i64 0, .slice none 0 0]) := by unfold Hid; rw [eW2]; exact has_new _ _ _
 have HA := hid (all1_c w1.heap.size W2 HO2.out)
 have HEW := hid eW2
 clear eW2
 go_wp2_with fail
 rw [← HEW.out]
 refine HA.out.mono ?_
 rintro e w3 ⟨ob, oj, oc, cb, cj, cc, rfl, k3⟩
 have K3 := hid (K2.out.then_ (k3.low K2.out.1.size))
 clear k3 HA HEW HO2 K2
 obtain ⟨W4, eW4⟩ : ∃ V, V = w3.alloc (.cells #[.int .i64 0, .int .i64 1, .int .i64 1, .int .i64 0, .int .i64 (-4294967296), .slice ob 0 cb, .slice oj 0 cj, .slice oc 0 cc] 42) := ⟨_, rfl⟩
 have K4 : Hid (Made w.heap.size w W4) := by unfold Hid; rw [eW4]; exact K3.out.cells K3.out.1.size _ _
 have HW4 : Hid (Has W4 w3.heap.size 42 #[.int .i64 0, .int .i64 1, .int .i64 1, .int .i64 0, .int .i64 (-4294967296), .slice ob 0 cb, .slice oj 0 cj, .slice oc 0 cc]) := by unfold Hid; rw [eW4]; exact has_new _ _ _
 obtain ⟨g4, eg4⟩ : ∃ g, w3.heap.size = g := ⟨_, rfl⟩
 rw [eg4] at HW4
 go_upto_region 2 with fail
 rw [← eW4]
 clear eW4
 try rw [eg4]
 clear eg4
 have b0 := HW4.out.at_ 0
 have b1 := HW4.out.at_ 1
 have b2 := HW4.out.at_ 2
 have b3 := HW4.out.at_ 3
 have b4 := HW4.out.at_ 4
 have b5 := HW4.out.at_ 5
 have b6 := HW4.out.at_ 6
 have b7 := HW4.out.at_ 7
 simp at b0 b1 b2 b3 b4 b5 b6 b7
 have l4 : g4 < W4.heap.size := HW4.out.here
 go_wp2_with fail
 refine (HN1.out _).mono ?_
 rintro e w5 ⟨rfl, k5⟩
 have K5 := hid (K4.out.then_ (k5.low K4.out.1.size))
 clear k5 b0 b1 b2 b3 b4 b5 b6 b7 l4
 go_wp2_with fail
 refine (HN0.out _).mono ?_
 rintro e w6 ⟨rfl, k6⟩
 have K6 := hid (K5.out.then_ (k6.low K5.out.1.size))
 clear k6
 go_wp2_with fail
 go_ret
 exact ⟨rfl, K6.out⟩
end Go.Proofs.YtjecadafjnbijaaGreat.Fx
/- The statements' Order of a deed. -/
namespace Go.Proofs.YtjecadafjnbijaaGreat.Fx
open Go.ChangeShapes Go.WideShapes Go.ChangeAt Go.RowKit
set_option linter.unusedVariables false
def alD (Q : Option Addr → Nat → Prop) (B : Nat) (bv : Option Addr → Nat → Value) (n : Nat) (f : Cs) (i : Nat) (v : World) (g : Nat) (e : MI.Ex) : Prop :=
 (i = 1 → ∃ ao c, e.v = bv ao c ∧ Sl v ao n f ∧ Q ao c ∧ (0 < n → ∀ b off s, ao = some ⟨b, off, s⟩ → b < B ∨ (g ≤ b ∧ b < e.hi))) ∧ (i = 4 → Has v g 35 #[.int .i64 0, .int .i64 0, .int .i64 0, .int .i64 0, .int .i64 0, .int .i64 0, .int .i64 0, .int .i64 0, .int .i64 0, .int .i64 0, .slice none 0 0] ∧ e.hi = g + 1) ∧ (i = 5 → Has v g 68 #[.int .i64 0, .int .i64 0, .int .i64 0, .int .i64 0, .int .i64 0, .int .i64 0, .int .i64 0, .int .i64 0] ∧ e.hi = g + 1)
theorem alD_lasts (Q : Option Addr → Nat → Prop) (B : Nat) (bv : Option Addr → Nat → Value) (n : Nat) (f : Cs) : MI.Lasts (alD Q B bv n f) := fun i u v g e h hh kk =>
 ⟨fun hi => by obtain ⟨ao, c, h1, h2, h3⟩ := h.1 hi; exact ⟨ao, c, h1, fun hn => (by obtain ⟨b, off, e', hp⟩ := h2 hn; exact ⟨b, off, e', hp.kept kk⟩), h3⟩,
  fun hi => by obtain ⟨h1, h2⟩ := h.2.1 hi; exact ⟨h1.stays kk h1.here, h2⟩,
  fun hi => by obtain ⟨h1, h2⟩ := h.2.2 hi; exact ⟨h1.stays kk h1.here, h2⟩⟩
theorem wpQuiet_load {P : Program} {ops : Array Oper} {C : World → Prop} {Q : Act → Prop} {a : Act} {o : Oper} {rest : List Oper} (hgd : o.guard = none) (ty : TypeId) (x : Operand) (ho : o.op = .load ty x) (g : Nat) (hx : a.eval x = .pointer (some ⟨g, 0, none⟩)) (ar : Array Value) (t : TypeId) (d : TypeDesc)
  (hc : ∀ u, C u → Has u g t ar) (hu : P.underlying ty = some d) (hd : (match d with | .struct _ | .array _ _ => true | _ => false) = true) (hi : (P.info? ty).map (·.size) = some ar.size) (h : wpQuiet P ops C Q rest (a.put o.dst (.agg ar))) : wpQuiet P ops C Q (o :: rest) a := by
 unfold wpQuiet
 rw [if_pos (RS.wanted_free a hgd)]
 refine ⟨.agg ar, fun u hcu => ?_, h⟩
 have hl := run_loadVar_at (P := P) u ⟨g, 0, none⟩ ty ar.toList d (fun j v hj => by rw [Addr.add_lit, Nat.zero_add, (hc u hcu).at_]; simpa using hj) hu hd (by simpa using hi)
 unfold Oper.quietAt Oper.quietUpon execOp
 simp only [ho, hx, Instr.loadAt, Instr.sureAddr, Sem.run_bind, Sem.run_pure, Result.andThen_ok, hl, Array.toArray_toList]
 first | trivial | exact ⟨rfl, rfl⟩ | exact ⟨trivial, trivial⟩
theorem Class.has {w : World} {T : Type} {f : T → World} (hf : Class w f) {g : Nat} {t : TypeId} {cs : Array Value} (h : Has w g t cs) : ∀ u, (∃ x, u = f x) → Has u g t cs := fun u ⟨x, e⟩ => by
 subst e
 exact h.stays (hf.1 x) h.here
def valD (i g : Nat) (e : MI.Ex) : Value := if i < 4 then e.v else .pointer (some ⟨g, 0, none⟩)
theorem dbodyM_c (d : De) (hi : DeI d) : ∃ bd, BdI bd ∧ (bd.n ≤ 8 ∨ bd.n = d.rn) ∧ ∀ w, Sl w d.rao d.rn d.rf → Calls Tryz.prog 40 #[deV d] w fun e v => ∃ ao c, e = .returned (bodyV bd.id bd.x bd.y bd.vx bd.vy bd.an bd.sp bd.de bd.k bd.r (.slice ao bd.n c)) ∧ Sl v ao bd.n bd.f ∧ ((ao = none ∧ bd.n = 0 ∧ c = 0) ∨ ∃ a, ao = some a) ∧ Made w.heap.size w v ∧ ((ao = d.rao ∧ bd.n = d.rn) ∨ ∀ b off s, ao = some ⟨b, off, s⟩ → w.heap.size ≤ b) := by
 by_cases hk : d.kd % 16 = 15
 ·refine ⟨d.raw, hi.raw, .inr rfl, fun w hs => ?_⟩
  refine (dbody_raw d.kd d.pk d.pn d.ps d.pt d.px d.py d.pa d.vx d.vy d.sp d.de d.a d.b d.ax d.ay d.tx d.ty d.ln d.rid d.rx d.ry d.rvx d.rvy d.ran d.rsp d.rde d.rk d.rr d.rao d.rn d.rc w hk).mono ?_
  rintro e v ⟨rfl, k⟩
  exact ⟨d.rao, d.rc, rfl, fun hn => by obtain ⟨b, off, e, hp⟩ := hs hn; exact ⟨b, off, e, hp.kept k⟩, hi.rok, k, .inl ⟨rfl, rfl⟩⟩
 ·obtain ⟨X, Y, A, k, r, n, f, hrp, hc, ir, ik, bX, bY, bA, hpl⟩ := place_w d.pk d.pn d.ps d.pt d.px d.py d.pa hi.px hi.py
  unfold Inn at bX bY
  have i0 : I64 0 := by unfold I64; omega
  have iM : I64 85899345920 := by unfold I64; omega
  have iN : I64 (-85899345920) := by unfold I64; omega
  by_cases hd : d.de % 4 = 0
  ·refine ⟨⟨0, X, Y, 0, 0, A, 0, 0, k, r, none, n, 0, f⟩, ⟨i0, by show I64 X; unfold I64; omega, by show I64 Y; unfold I64; omega, i0, i0, by show I64 A; unfold I64; omega, i0, i0, ik, ir, hc⟩, .inl (right_n hrp), fun w hs => ?_⟩
   exact (dbody_still d.kd d.pk d.pn d.ps d.pt d.px d.py d.pa d.vx d.vy d.sp d.de d.a d.b d.ax d.ay d.tx d.ty d.ln d.rid d.rx d.ry d.rvx d.rvy d.ran d.rsp d.rde d.rk d.rr d.rao d.rn d.rc w hk hd X Y A k r n f hpl).mono fun _ _ ⟨a, c, h1, h2, h3, h4, h5⟩ => ⟨a, c, h1, h2, h3, h4, .inr h5⟩
  ·refine ⟨⟨0, X, Y, bringF d.vx (negF 85899345920) 85899345920, bringF d.vy (negF 85899345920) 85899345920, A, bringF d.sp (-85899345920) 85899345920, 1 + d.de % 34359738368, k, r, none, n, 0, f⟩,
    ⟨i0, by show I64 X; unfold I64; omega, by show I64 Y; unfold I64; omega, bring_I hi.vx (by exact iN) iM, bring_I hi.vy (by exact iN) iM, by show I64 A; unfold I64; omega, bring_I hi.sp iN iM, by show I64 (1 + d.de % 34359738368); unfold I64; omega, ik, ir, hc⟩, .inl (right_n hrp), fun w hs => ?_⟩
   exact (dbody_full d.kd d.pk d.pn d.ps d.pt d.px d.py d.pa d.vx d.vy d.sp d.de d.a d.b d.ax d.ay d.tx d.ty d.ln d.rid d.rx d.ry d.rvx d.rvy d.ran d.rsp d.rde d.rk d.rr d.rao d.rn d.rc w hk hd X Y A k r _ _ _ _ n f hi.vx hi.vy hi.sp rfl rfl rfl rfl hpl).mono fun _ _ ⟨a, c, h1, h2, h3, h4, h5⟩ => ⟨a, c, h1, h2, h3, h4, .inr h5⟩
def ordOf (K aq VX VY SP PX PY : Int) (j : Jt) (b : Bd) : Or :=
 if K = 2 then ⟨5, aq, 0, 0, 0, 0, VX, VY, 0, SP, 0, 0, 0, 0, none, 0, 0, fun _ => (0, 0)⟩
 else if K = 3 then ⟨4, aq, 0, 0, 0, 0, 0, 0, 0, 0, 0, 0, 0, 0, none, 0, 0, fun _ => (0, 0)⟩
 else if K = 4 ∨ K = 5 then ⟨3, 0, j.a, j.b, j.ax, j.ay, j.tx, j.ty, 0, 0, 0, j.ln, 0, 0, none, 0, 0, fun _ => (0, 0)⟩
 else if K = 6 then ⟨2, aq, 0, 0, 0, 0, 0, 0, 0, 0, 0, 0, 0, 0, none, 0, 0, fun _ => (0, 0)⟩
 else if K = 7 then ⟨6, 0, 0, 0, 0, 0, PX, PY, 0, 0, 0, 0, 0, 0, none, 0, 0, fun _ => (0, 0)⟩
 else ⟨1, 0, 0, 0, b.x, b.y, b.vx, b.vy, b.an, b.sp, b.de, 0, b.k, b.r, b.ao, b.n, b.c, b.f⟩
theorem ordOf_1 {K aq VX VY SP PX PY : Int} {j : Jt} {b : Bd} (h : (¬ K = 2 ∧ ¬ K = 3 ∧ ¬ (K = 4 ∨ K = 5)) ∧ ¬ K = 6 ∧ ¬ K = 7) : ordOf K aq VX VY SP PX PY j b = ⟨1, 0, 0, 0, b.x, b.y, b.vx, b.vy, b.an, b.sp, b.de, 0, b.k, b.r, b.ao, b.n, b.c, b.f⟩ := by
 unfold ordOf
 rw [if_neg h.1.1, if_neg h.1.2.1, if_neg h.1.2.2, if_neg h.2.1, if_neg h.2.2]
def Ans1 (Q : Option Addr → Nat → Prop) (w : World) (K aq VX VY SP PX PY : Int) (j : Jt) (b : Bd) (e : Ending) (v : World) : Prop :=
 ∃ ao c, e = .returned (orV (ordOf K aq VX VY SP PX PY j { b with ao := ao, c := c })) ∧ Sl v (ordOf K aq VX VY SP PX PY j { b with ao := ao, c := c }).ao (ordOf K aq VX VY SP PX PY j { b with ao := ao, c := c }).n (ordOf K aq VX VY SP PX PY j { b with ao := ao, c := c }).f ∧ Q ao c ∧ Made w.heap.size w v
end Go.Proofs.YtjecadafjnbijaaGreat.Fx