/- WoA WoF WoB -/
import Derived.Test.YtjhcejmfiekjgaaGreatSt4
import Derived.Deep.LoopGhost
import Derived.LoopN
import Derived.WalkMore
import Derived.BigQuiet
set_option maxRecDepth 100000
set_option maxHeartbeats 64000000
/- Package world: what may be, a body and a joint by itself; numbers compared. -/
namespace Go.Proofs.YtjhcejmfiekjgaaGreat.Fx
open Go.ChangeShapes Go.WideShapes Go.ChangeAt Go.RowKit
set_option linter.unusedVariables false
theorem bring_inn {a lo hi : Int} (ha : I64 a) (h0 : -9223372036854775807 ≤ lo) (h1 : lo ≤ hi) (h2 : hi ≤ 9223372036854775807) : (a == bringF a lo hi) = true ↔ lo ≤ a ∧ a ≤ hi := by
 unfold I64 at ha
 unfold bringF cl
 simp only [beq_iff_eq]
 (repeat' split) <;> omega
theorem veql (a b c d : Int) (r : Bool) (hr : r = true ↔ a = c ∧ b = d) (w : World) : (binOp .eql 26 (vecV a b) (vecV c d)).run Tryz.prog w = .ok (.bool r) w := by
 by_cases h1 : a = c
 ·by_cases h2 : b = d
  ·have e : r = true := hr.2 ⟨h1, h2⟩
   subst h1; subst h2; subst e
   go_simp
  ·have e : r = false := Bool.eq_false_iff.2 fun h => h2 (hr.1 h).2
   have hy : (b == d) = false := by simpa using h2
   subst h1; subst e
   go_simp
 ·have e : r = false := Bool.eq_false_iff.2 fun h => h1 (hr.1 h).1
  have hx : (a == c) = false := by simpa using h1
  subst e
  go_simp
theorem lies_c (a lo hi : Int) (r : Bool) (w : World) (ha : I64 a) (h0 : -9223372036854775807 ≤ lo) (h1 : lo ≤ hi) (h2 : hi ≤ 9223372036854775807) (hr : r = true ↔ lo ≤ a ∧ a ≤ hi) :
  Calls Tryz.prog 75 #[.int .i64 a, .int .i64 lo, .int .i64 hi] w fun e w' => e = .returned (.bool r) ∧ Made w.heap.size w w' := by
 obtain ⟨z, ez⟩ : ∃ z, bringF a lo hi = z := ⟨_, rfl⟩
 have HR : Hid ((a == z) = r) := by
  unfold Hid
  rw [Bool.eq_iff_iff, hr, ← ez]
  exact bring_inn ha h0 h1 h2
 have EZ := hid ez
 have il : I64 lo := by unfold I64; omega
 have ih : I64 hi := by unfold I64; omega
 clear hr ez h0 h1 h2
 go_enter Tryz.func75, Tryz.ntmps75
 go_wp2_with fail
 refine (bring_is _ _ _ _ _ ha il ih EZ.out).mono ?_
 rintro e w' ⟨rfl, rfl⟩
 have hq := HR.out
 go_wp2_with fail
 go_ret
 exact ⟨rfl, Made.rfl_ _ _⟩
theorem within_c (a b m : Int) (r : Bool) (w : World) (ha : I64 a) (hb : I64 b) (h0 : 0 ≤ m) (h1 : m ≤ 4611686018427387904) (hr : r = true ↔ Inn a m ∧ Inn b m) :
  Calls Tryz.prog 74 #[vecV a b, .int .i64 m] w fun e w' => e = .returned (.bool r) ∧ Made w.heap.size w w' := by
 obtain ⟨x, ex⟩ : ∃ z, bringF a (-m) m = z := ⟨_, rfl⟩
 obtain ⟨y, ey⟩ : ∃ z, bringF b (-m) m = z := ⟨_, rfl⟩
 have q := veql a b x y r (by
  rw [hr, ← ex, ← ey]
  have A := bring_inn ha (lo := -m) (hi := m) (by omega) (by omega) (by omega)
  have B := bring_inn hb (lo := -m) (hi := m) (by omega) (by omega) (by omega)
  simp only [beq_iff_eq] at A B
  exact ⟨fun h => ⟨A.2 h.1, B.2 h.2⟩, fun h => ⟨A.1 h.1, B.1 h.2⟩⟩)
 have EX := hid ex
 have EY := hid ey
 have im : I64 m := by unfold I64; omega
 have il : I64 (-m) := by unfold I64; omega
 obtain ⟨nm, en⟩ : ∃ z, -m = z := ⟨_, rfl⟩
 have hneg : IntKind.i64.wrap (-m) = nm := by rw [← en]; simp [IntKind.wrap, IntKind.bits, IntKind.signed]; omega
 rw [en] at EX EY il
 clear hr ex ey en
 go_enter Tryz.func74, Tryz.ntmps74
 go_wp2_with fail
 refine reg_made (by kernel_rfl) (by kernel_rfl) ?_
 intro T hT fw hf
 have x0 := Class.reads hf (p := ⟨w.heap.size, 0, none⟩) (u := .int .i64 a) (by go_simp)
 have x1 := Class.reads hf (p := ⟨w.heap.size, 1, none⟩) (u := .int .i64 b) (by go_simp)
 repeat (go_big_quiet_step ((first
  | (go_at_call 62; with_reducible exact hf.same (bring_is _ _ _ _ _ ha il im EX.out))
  | (go_at_call 62; with_reducible exact hf.same (bring_is _ _ _ _ _ hb il im EY.out)))))
 refine wpQuiet_nil ?_
 intro w3 h3
 have k3 := hf.here h3
 go_wp2_with fail
 go_ret
 exact ⟨rfl, made_box k3⟩
theorem still_c (i x y vx vy an sp d K R : Int) (ao : Option Addr) (n c : Nat) (r : Bool) (w : World) (hr : r = true ↔ vx = 0 ∧ vy = 0 ∧ sp = 0) :
  Calls Tryz.prog 76 #[bodyV i x y vx vy an sp d K R (.slice ao n c)] w fun e w' => e = .returned (.bool r) ∧ Made w.heap.size w w' := by
 by_cases h : vx = 0 ∧ vy = 0
 ·have q := veql vx vy 0 0 true ⟨fun _ => h, fun _ => rfl⟩
  have HR : Hid ((sp == 0) = r) := by
   unfold Hid; rw [Bool.eq_iff_iff, hr]; simp only [beq_iff_eq]; exact ⟨fun e => ⟨h.1, h.2, e⟩, fun e => e.2.2⟩
  clear hr h
  go_enter Tryz.func76, Tryz.ntmps76
  go_wp2_with fail
  go_ret
  exact ⟨by rw [← HR.out]; rfl, (Made.rfl_ _ _).cells (Nat.le_refl _) _ _⟩
 ·have q := veql vx vy 0 0 false ⟨fun e => (by cases e), fun e => absurd e h⟩
  have HR : Hid (r = false) := Bool.eq_false_iff.2 fun e => h ⟨(hr.1 e).1, (hr.1 e).2.1⟩
  clear hr h
  go_enter Tryz.func76, Tryz.ntmps76
  go_wp2_with fail
  go_ret
  exact ⟨by rw [HR.out]; rfl, (Made.rfl_ _ _).cells (Nat.le_refl _) _ _⟩
theorem a_bool (P : Prop) : ∃ r : Bool, r = true ↔ P := by
 by_cases h : P
 ·exact ⟨true, ⟨fun _ => h, fun _ => rfl⟩⟩
 ·exact ⟨false, ⟨fun e => (by cases e), fun e => absurd e h⟩⟩
theorem rbody_c (i x y vx vy an sp d K R : Int) (ao : Option Addr) (n c : Nat) (f : Cs) (r : Bool) (w : World) (hs : Sl w ao n f) (hi : BdI ⟨i, x, y, vx, vy, an, sp, d, K, R, ao, n, c, f⟩) (hr : r = true ↔ BodyP ⟨i, x, y, vx, vy, an, sp, d, K, R, ao, n, c, f⟩) :
  Calls Tryz.prog 39 #[bodyV i x y vx vy an sp d K R (.slice ao n c)] w fun e w' => e = .returned (.bool r) ∧ Made w.heap.size w w' := by
 obtain ⟨c0, h0⟩ := a_bool (RightP K R n f)
 obtain ⟨c1, h1⟩ := a_bool (Inn x 4503599627370496 ∧ Inn y 4503599627370496)
 obtain ⟨c2, h2⟩ := a_bool (Inn vx 17592186044416 ∧ Inn vy 17592186044416)
 obtain ⟨c3, h3⟩ := a_bool (-1099511627776 ≤ sp ∧ sp ≤ 1099511627776)
 obtain ⟨c4, h4⟩ := a_bool (0 ≤ an ∧ an ≤ 4294967295)
 obtain ⟨c5, h5⟩ := a_bool (0 ≤ d ∧ d ≤ 4398046511104)
 obtain ⟨c6, h6⟩ := a_bool (vx = 0 ∧ vy = 0 ∧ sp = 0)
 have H0 := hid h0
 have H1 := hid h1
 have H2 := hid h2
 have H3 := hid h3
 have H4 := hid h4
 have H5 := hid h5
 have H6 := hid h6
 have HR : Hid (r = true ↔ (((((c0 = true ∧ c1 = true) ∧ c2 = true) ∧ c3 = true) ∧ c4 = true) ∧ c5 = true) ∧ (d = 0 → c6 = true)) := by
  unfold Hid
  rw [hr, h0, h1, h2, h3, h4, h5, h6]
  constructor
  ·intro h; exact ⟨⟨⟨⟨⟨⟨h.shape, h.x, h.y⟩, h.vx, h.vy⟩, h.sp⟩, h.an⟩, h.de⟩, h.still⟩
  ·rintro ⟨⟨⟨⟨⟨⟨a0, a1, a2⟩, a3, a4⟩, a5⟩, a6⟩, a7⟩, a8⟩; exact ⟨a0, a1, a2, a3, a4, a5, a6, a7, a8⟩
 have HS : Hid (∀ v, Made w.heap.size w v → Sl v ao n f) := fun v k hn => by
  obtain ⟨b, off, e, hp⟩ := hs hn
  exact ⟨b, off, e, hp.kept k⟩
 have HI := hid hi
 clear h0 h1 h2 h3 h4 h5 h6 hr hs hi
 obtain ⟨W, eW⟩ : ∃ W, W = w.alloc (.cells #[.int .i64 i, .int .i64 x, .int .i64 y, .int .i64 vx, .int .i64 vy, .int .i64 an, .int .i64 sp, .int .i64 d, .int .i64 K, .int .i64 R, .slice ao n c] 43) := ⟨_, rfl⟩
 have KK : Hid (Made w.heap.size w W) := by unfold Hid; rw [eW]; exact (Made.rfl_ _ _).cells (Nat.le_refl _) _ _
 have HB : Hid (Has W w.heap.size 43 #[.int .i64 i, .int .i64 x, .int .i64 y, .int .i64 vx, .int .i64 vy, .int .i64 an, .int .i64 sp, .int .i64 d, .int .i64 K, .int .i64 R, .slice ao n c]) := by unfold Hid; rw [eW]; exact has_new _ _ _
 obtain ⟨g0, eg⟩ : ∃ g, w.heap.size = g := ⟨_, rfl⟩
 have e2 : w.heap.size = g0 := eg
 go_enter Tryz.func39, Tryz.ntmps39
 rw [eg] at HB
 have b0 := HB.out.at_ 0
 have b1 := HB.out.at_ 1
 have b2 := HB.out.at_ 2
 have b3 := HB.out.at_ 3
 have b4 := HB.out.at_ 4
 have b5 := HB.out.at_ 5
 have b6 := HB.out.at_ 6
 have b7 := HB.out.at_ 7
 have b8 := HB.out.at_ 8
 have b9 := HB.out.at_ 9
 have b10 := HB.out.at_ 10
 simp at b0 b1 b2 b3 b4 b5 b6 b7 b8 b9 b10
 have lt0 : g0 < W.heap.size := HB.out.here
 go_upto_region 1 with fail
 rw [← eW]
 clear eW
 try rw [eg]
 go_wp2_with fail
 refine (right_is K R ao n c f _ (HS.out _ KK.out) HI.out.f c0 H0.out).mono ?_
 rintro e w1 ⟨rfl, k⟩
 have K1 : Hid (Made w.heap.size w w1) := KK.out.then_ (k.low KK.out.1.size)
 have HB1 := hid (HB.out.stays k HB.out.here)
 clear k b0 b1 b2 b3 b4 b5 b6 b7 b8 b9 b10
 cases c0 with
 | false =>
  have hF : Hid (r = false) := Bool.eq_false_iff.2 fun e => by have := HR.out.1 e; simp at this
  go_wp2_with fail
  go_ret
  exact ⟨by rw [hF.out]; rfl, K1.out⟩
 | true =>
  have b0 := HB1.out.at_ 0
  have b1 := HB1.out.at_ 1
  have b2 := HB1.out.at_ 2
  have b3 := HB1.out.at_ 3
  have b4 := HB1.out.at_ 4
  have b5 := HB1.out.at_ 5
  have b6 := HB1.out.at_ 6
  have b7 := HB1.out.at_ 7
  have b8 := HB1.out.at_ 8
  have b9 := HB1.out.at_ 9
  have b10 := HB1.out.at_ 10
  simp at b0 b1 b2 b3 b4 b5 b6 b7 b8 b9 b10
  go_wp2_with fail
  refine (within_c x y 4503599627370496 c1 _ HI.out.x HI.out.y (by omega) (by omega) H1.out).mono ?_
  rintro e w2 ⟨rfl, k⟩
  have K2 : Hid (Made w.heap.size w w2) := K1.out.then_ (k.low K1.out.1.size)
  have HB2 := hid (HB1.out.stays k HB1.out.here)
  clear k b0 b1 b2 b3 b4 b5 b6 b7 b8 b9 b10
  cases c1 with
  | false =>
   have hF : Hid (r = false) := Bool.eq_false_iff.2 fun e => by have := HR.out.1 e; simp at this
   go_wp2_with fail
   go_ret
   exact ⟨by rw [hF.out]; rfl, K2.out⟩
  | true =>
   have b0 := HB2.out.at_ 0
   have b1 := HB2.out.at_ 1
   have b2 := HB2.out.at_ 2
   have b3 := HB2.out.at_ 3
   have b4 := HB2.out.at_ 4
   have b5 := HB2.out.at_ 5
   have b6 := HB2.out.at_ 6
   have b7 := HB2.out.at_ 7
   have b8 := HB2.out.at_ 8
   have b9 := HB2.out.at_ 9
   have b10 := HB2.out.at_ 10
   simp at b0 b1 b2 b3 b4 b5 b6 b7 b8 b9 b10
   go_wp2_with fail
   refine (within_c vx vy 17592186044416 c2 _ HI.out.vx HI.out.vy (by omega) (by omega) H2.out).mono ?_
   rintro e w3 ⟨rfl, k⟩
   have K3 : Hid (Made w.heap.size w w3) := K2.out.then_ (k.low K2.out.1.size)
   have HB3 := hid (HB2.out.stays k HB2.out.here)
   clear k b0 b1 b2 b3 b4 b5 b6 b7 b8 b9 b10
   cases c2 with
   | false =>
    have hF : Hid (r = false) := Bool.eq_false_iff.2 fun e => by have := HR.out.1 e; simp at this
    go_wp2_with fail
    go_ret
    exact ⟨by rw [hF.out]; rfl, K3.out⟩
   | true =>
    have b0 := HB3.out.at_ 0
    have b1 := HB3.out.at_ 1
    have b2 := HB3.out.at_ 2
    have b3 := HB3.out.at_ 3
    have b4 := HB3.out.at_ 4
    have b5 := HB3.out.at_ 5
    have b6 := HB3.out.at_ 6
    have b7 := HB3.out.at_ 7
    have b8 := HB3.out.at_ 8
    have b9 := HB3.out.at_ 9
    have b10 := HB3.out.at_ 10
    simp at b0 b1 b2 b3 b4 b5 b6 b7 b8 b9 b10
    go_wp2_with fail
    refine (lies_c sp (-1099511627776) 1099511627776 c3 _ HI.out.sp (by omega) (by omega) (by omega) H3.out).mono ?_
    rintro e w4 ⟨rfl, k⟩
    have K4 : Hid (Made w.heap.size w w4) := K3.out.then_ (k.low K3.out.1.size)
    have HB4 := hid (HB3.out.stays k HB3.out.here)
    clear k b0 b1 b2 b3 b4 b5 b6 b7 b8 b9 b10
    cases c3 with
    | false =>
     have hF : Hid (r = false) := Bool.eq_false_iff.2 fun e => by have := HR.out.1 e; simp at this
     go_wp2_with fail
     go_ret
     exact ⟨by rw [hF.out]; rfl, K4.out⟩
    | true =>
     have b0 := HB4.out.at_ 0
     have b1 := HB4.out.at_ 1
     have b2 := HB4.out.at_ 2
     have b3 := HB4.out.at_ 3
     have b4 := HB4.out.at_ 4
     have b5 := HB4.out.at_ 5
     have b6 := HB4.out.at_ 6
     have b7 := HB4.out.at_ 7
     have b8 := HB4.out.at_ 8
     have b9 := HB4.out.at_ 9
     have b10 := HB4.out.at_ 10
     simp at b0 b1 b2 b3 b4 b5 b6 b7 b8 b9 b10
     go_wp2_with fail
     refine (lies_c an 0 4294967295 c4 _ HI.out.an (by omega) (by omega) (by omega) H4.out).mono ?_
     rintro e w5 ⟨rfl, k⟩
     have K5 : Hid (Made w.heap.size w w5) := K4.out.then_ (k.low K4.out.1.size)
     have HB5 := hid (HB4.out.stays k HB4.out.here)
     clear k b0 b1 b2 b3 b4 b5 b6 b7 b8 b9 b10
     cases c4 with
     | false =>
      have hF : Hid (r = false) := Bool.eq_false_iff.2 fun e => by have := HR.out.1 e; simp at this
      go_wp2_with fail
      go_ret
      exact ⟨by rw [hF.out]; rfl, K5.out⟩
     | true =>
      have b0 := HB5.out.at_ 0
      have b1 := HB5.out.at_ 1
      have b2 := HB5.out.at_ 2
      have b3 := HB5.out.at_ 3
      have b4 := HB5.out.at_ 4
      have b5 := HB5.out.at_ 5
      have b6 := HB5.out.at_ 6
      have b7 := HB5.out.at_ 7
      have b8 := HB5.out.at_ 8
      have b9 := HB5.out.at_ 9
      have b10 := HB5.out.at_ 10
      simp at b0 b1 b2 b3 b4 b5 b6 b7 b8 b9 b10
      go_wp2_with fail
      refine (lies_c d 0 4398046511104 c5 _ HI.out.de (by omega) (by omega) (by omega) H5.out).mono ?_
      rintro e w6 ⟨rfl, k⟩
      have K6 : Hid (Made w.heap.size w w6) := K5.out.then_ (k.low K5.out.1.size)
      have HB6 := hid (HB5.out.stays k HB5.out.here)
      clear k b0 b1 b2 b3 b4 b5 b6 b7 b8 b9 b10
      cases c5 with
      | false =>
       have hF : Hid (r = false) := Bool.eq_false_iff.2 fun e => by have := HR.out.1 e; simp at this
       go_wp2_with fail
       go_ret
       exact ⟨by rw [hF.out]; rfl, K6.out⟩
      | true =>
       have b0 := HB6.out.at_ 0
       have b1 := HB6.out.at_ 1
       have b2 := HB6.out.at_ 2
       have b3 := HB6.out.at_ 3
       have b4 := HB6.out.at_ 4
       have b5 := HB6.out.at_ 5
       have b6 := HB6.out.at_ 6
       have b7 := HB6.out.at_ 7
       have b8 := HB6.out.at_ 8
       have b9 := HB6.out.at_ 9
       have b10 := HB6.out.at_ 10
       simp at b0 b1 b2 b3 b4 b5 b6 b7 b8 b9 b10
       by_cases hd : d = 0
       ·have HR2 : Hid (r = c6) := by
         unfold Hid; rw [Bool.eq_iff_iff, HR.out]; simp [hd]
        have e0 : (d != 0) = false := by simp [hd]
        clear hd
        go_wp2_with fail
        refine (still_c i x y vx vy an sp d K R ao n c c6 _ H6.out).mono ?_
        rintro e w7 ⟨rfl, k⟩
        have K7 : Hid (Made w.heap.size w w7) := K6.out.then_ (k.low K6.out.1.size)
        clear k b0 b1 b2 b3 b4 b5 b6 b7 b8 b9 b10
        go_wp2_with fail
        go_ret
        exact ⟨by rw [HR2.out]; rfl, K7.out⟩
       ·have hT : Hid (r = true) := HR.out.2 ⟨by simp, fun e => absurd e hd⟩
        have e0 : (d != 0) = true := by simpa using hd
        clear hd
        go_wp2_with fail
        go_ret
        exact ⟨by rw [hT.out]; rfl, K6.out⟩
theorem rjoint_c (j : Jt) (r : Bool) (w : World) (hi : JtI j) (hr : r = true ↔ JointP j) :
  Calls Tryz.prog 88 #[jtV j] w fun e w' => e = .returned (.bool r) ∧ Made w.heap.size w w' := by
 obtain ⟨id, a, b, ax, ay, tx, ty, ln⟩ := j
 obtain ⟨c0, h0⟩ := a_bool (Inn ax 274877906944 ∧ Inn ay 274877906944)
 obtain ⟨c1, h1⟩ := a_bool (Inn tx 274877906944 ∧ Inn ty 274877906944)
 obtain ⟨c2, h2⟩ := a_bool (0 ≤ ln ∧ ln ≤ 4503599627370496)
 have H0 := hid h0
 have H1 := hid h1
 have H2 := hid h2
 have HR : Hid (r = true ↔ ((((c0 = true ∧ c1 = true) ∧ c2 = true) ∧ 1 ≤ a) ∧ 1 ≤ b) ∧ a ≠ b) := by
  unfold Hid
  rw [hr, h0, h1, h2]
  constructor
  ·intro h; exact ⟨⟨⟨⟨⟨⟨h.ax, h.ay⟩, h.tx, h.ty⟩, h.ln⟩, h.a⟩, h.b⟩, h.ab⟩
  ·rintro ⟨⟨⟨⟨⟨⟨a0, a1⟩, a2, a3⟩, a4⟩, a5⟩, a6⟩, a7⟩; exact ⟨a0, a1, a2, a3, a4, a5, a6, a7⟩
 obtain ⟨i0, i1, i2, i3, i4, i5, i6, i7⟩ := hi
 simp only [] at i0 i1 i2 i3 i4 i5 i6 i7
 clear h0 h1 h2 hr
 obtain ⟨W, eW⟩ : ∃ W, W = w.alloc (.cells #[.int .i64 id, .int .i64 a, .int .i64 b, .int .i64 ax, .int .i64 ay, .int .i64 tx, .int .i64 ty, .int .i64 ln] 36) := ⟨_, rfl⟩
 have KK : Hid (Made w.heap.size w W) := by unfold Hid; rw [eW]; exact (Made.rfl_ _ _).cells (Nat.le_refl _) _ _
 have HB : Hid (Has W w.heap.size 36 #[.int .i64 id, .int .i64 a, .int .i64 b, .int .i64 ax, .int .i64 ay, .int .i64 tx, .int .i64 ty, .int .i64 ln]) := by unfold Hid; rw [eW]; exact has_new _ _ _
 obtain ⟨g0, eg⟩ : ∃ g, w.heap.size = g := ⟨_, rfl⟩
 go_enter Tryz.func88, Tryz.ntmps88
 rw [eg] at HB
 have b0 := HB.out.at_ 0
 have b1 := HB.out.at_ 1
 have b2 := HB.out.at_ 2
 have b3 := HB.out.at_ 3
 have b4 := HB.out.at_ 4
 have b5 := HB.out.at_ 5
 have b6 := HB.out.at_ 6
 have b7 := HB.out.at_ 7
 simp at b0 b1 b2 b3 b4 b5 b6 b7
 have lt0 : g0 < W.heap.size := HB.out.here
 go_upto_region 1 with fail
 rw [← eW]
 clear eW
 try rw [eg]
 go_wp2_with fail
 refine (within_c ax ay 274877906944 c0 _ i3 i4 (by omega) (by omega) H0.out).mono ?_
 rintro e w1 ⟨rfl, k⟩
 have K1 : Hid (Made w.heap.size w w1) := KK.out.then_ (k.low KK.out.1.size)
 have HB1 := hid (HB.out.stays k HB.out.here)
 clear k b0 b1 b2 b3 b4 b5 b6 b7
 cases c0 with
 | false =>
  have hF : Hid (r = false) := Bool.eq_false_iff.2 fun e => by have := HR.out.1 e; simp at this
  go_wp2_with fail
  go_ret
  exact ⟨by rw [hF.out]; rfl, K1.out⟩
 | true =>
  have b0 := HB1.out.at_ 0
  have b1 := HB1.out.at_ 1
  have b2 := HB1.out.at_ 2
  have b3 := HB1.out.at_ 3
  have b4 := HB1.out.at_ 4
  have b5 := HB1.out.at_ 5
  have b6 := HB1.out.at_ 6
  have b7 := HB1.out.at_ 7
  simp at b0 b1 b2 b3 b4 b5 b6 b7
  go_wp2_with fail
  refine (within_c tx ty 274877906944 c1 _ i5 i6 (by omega) (by omega) H1.out).mono ?_
  rintro e w2 ⟨rfl, k⟩
  have K2 : Hid (Made w.heap.size w w2) := K1.out.then_ (k.low K1.out.1.size)
  have HB2 := hid (HB1.out.stays k HB1.out.here)
  clear k b0 b1 b2 b3 b4 b5 b6 b7
  cases c1 with
  | false =>
   have hF : Hid (r = false) := Bool.eq_false_iff.2 fun e => by have := HR.out.1 e; simp at this
   go_wp2_with fail
   go_ret
   exact ⟨by rw [hF.out]; rfl, K2.out⟩
  | true =>
   have b0 := HB2.out.at_ 0
   have b1 := HB2.out.at_ 1
   have b2 := HB2.out.at_ 2
   have b3 := HB2.out.at_ 3
   have b4 := HB2.out.at_ 4
   have b5 := HB2.out.at_ 5
   have b6 := HB2.out.at_ 6
   have b7 := HB2.out.at_ 7
   simp at b0 b1 b2 b3 b4 b5 b6 b7
   go_wp2_with fail
   refine (lies_c ln 0 4503599627370496 c2 _ i7 (by omega) (by omega) (by omega) H2.out).mono ?_
   rintro e w3 ⟨rfl, k⟩
   have K3 : Hid (Made w.heap.size w w3) := K2.out.then_ (k.low K2.out.1.size)
   have HB3 := hid (HB2.out.stays k HB2.out.here)
   clear k b0 b1 b2 b3 b4 b5 b6 b7
   cases c2 with
   | false =>
    have hF : Hid (r = false) := Bool.eq_false_iff.2 fun e => by have := HR.out.1 e; simp at this
    go_wp2_with fail
    go_ret
    exact ⟨by rw [hF.out]; rfl, K3.out⟩
   | true =>
    have b0 := HB3.out.at_ 0
    have b1 := HB3.out.at_ 1
    have b2 := HB3.out.at_ 2
    have b3 := HB3.out.at_ 3
    have b4 := HB3.out.at_ 4
    have b5 := HB3.out.at_ 5
    have b6 := HB3.out.at_ 6
    have b7 := HB3.out.at_ 7
    simp at b0 b1 b2 b3 b4 b5 b6 b7
    by_cases ha : 1 ≤ a
    ·by_cases hb : 1 ≤ b
     ·have HR2 : Hid (r = (a != b)) := by
       unfold Hid; rw [Bool.eq_iff_iff, HR.out]; simp [ha, hb]
      go_wp2_with fail
      go_ret
      exact ⟨by rw [HR2.out]; rfl, K3.out⟩
     ·have hF : Hid (r = false) := Bool.eq_false_iff.2 fun e => hb (HR.out.1 e).1.2
      go_wp2_with fail
      go_ret
      exact ⟨by rw [hF.out]; rfl, eg ▸ K3.out⟩
    ·have hF : Hid (r = false) := Bool.eq_false_iff.2 fun e => ha (HR.out.1 e).1.1.2
     go_wp2_with fail
     go_ret
     exact ⟨by rw [hF.out]; rfl, eg ▸ K3.out⟩
def cmpG (a b : Int) : Int := if a < b then -1 else if b < a then 1 else 0
theorem cmpG_neg (a b : Int) : cmpG a b < 0 ↔ a < b := by unfold cmpG; (repeat' split) <;> omega
theorem cmpG_pos (a b : Int) : 0 < cmpG a b ↔ b < a := by unfold cmpG; (repeat' split) <;> omega
theorem cmpG_zero (a b : Int) : cmpG a b = 0 ↔ a = b := by unfold cmpG; (repeat' split) <;> omega
theorem nanW_c (a : Int) (w : World) : Calls Tryz.prog 102 #[.int .i64 a] w fun e w' => e = .returned (.bool false) ∧ w' = w := by
 go_enter Tryz.func102, Tryz.ntmps102
 go_wp2_with fail
 go_ret
 exact ⟨by simp, rfl⟩
theorem cmpW_c (a b : Int) (w : World) : Calls Tryz.prog 59 #[.int .i64 a, .int .i64 b] w fun e w' => e = .returned (.int .i64 (cmpG a b)) ∧ w' = w := by
 by_cases h1 : a < b
 ·have HC : Hid (cmpG a b = -1) := by unfold Hid cmpG; rw [if_pos h1]
  go_enter Tryz.func59, Tryz.ntmps59
  go_wp2_with (go_at_call 102; refine (nanW_c _ _).mono ?_; rintro e w' ⟨rfl, rfl⟩)
  go_ret
  exact ⟨by rw [HC.out]; rfl, rfl⟩
 ·by_cases h2 : b < a
  ·have HC : Hid (cmpG a b = 1) := by unfold Hid cmpG; rw [if_neg h1, if_pos h2]
   go_enter Tryz.func59, Tryz.ntmps59
   go_wp2_with (go_at_call 102; refine (nanW_c _ _).mono ?_; rintro e w' ⟨rfl, rfl⟩)
   go_ret
   exact ⟨by rw [HC.out]; rfl, rfl⟩
  ·have HC : Hid (cmpG a b = 0) := by unfold Hid cmpG; rw [if_neg h1, if_neg h2]
   go_enter Tryz.func59, Tryz.ntmps59
   go_wp2_with (go_at_call 102; refine (nanW_c _ _).mono ?_; rintro e w' ⟨rfl, rfl⟩)
   go_ret
   exact ⟨by rw [HC.out]; rfl, rfl⟩
end Go.Proofs.YtjhcejmfiekjgaaGreat.Fx
/- sort.Find. -/
namespace Go.Proofs.YtjhcejmfiekjgaaGreat.Fx
open Go.ChangeShapes Go.WideShapes Go.ChangeAt Go.RowKit
set_option linter.unusedVariables false
theorem sfind_c (g : Nat) (lb : Array Value) (eg : ∀ args w, (callFunc g args).run Tryz.prog w = .ok (.enter g args) w) (f : Nat → Int) {n : Nat} {w : World} (hn : n ≤ 1073741824)
  (hm : ∀ i j, i ≤ j → j < n → f i ≤ 0 → f j ≤ 0)
  (hS : ∀ i u, i < n → Made w.heap.size w u → Calls Tryz.prog g (#[.int .i64 (i : Nat)] ++ lb) u fun e v => e = .returned (.int .i64 (f i)) ∧ Made u.heap.size u v) :
  Calls Tryz.prog 100 #[.int .i64 (n : Nat), .func (.func g) #[] lb] w fun e v => ∃ (i : Nat) (r : Bool), i ≤ n ∧ e = .returned (.tuple #[.int .i64 (i : Nat), .bool r]) ∧ Made w.heap.size w v ∧ (∀ k, k < i → 0 < f k) ∧ (∀ k, i ≤ k → k < n → f k ≤ 0) ∧ (r = true ↔ i < n ∧ f i = 0) := by
 have HM := hid hm
 have HS := hid hS
 clear hm hS
 go_enter Tryz.func100, Tryz.ntmps100
 go_wp2_with fail
 go_loopg [4, 6, 7] n (fun gg s4 s6 s7 wx => ∃ i j : Nat, i ≤ j ∧ j ≤ n ∧ j - i ≤ gg ∧ s4 = .int .i64 (i : Nat) ∧ s6 = .int .i64 (j : Nat) ∧ Hid (Made w.heap.size w wx ∧ (∀ k, k < i → 0 < f k) ∧ (∀ k, j ≤ k → k < n → f k ≤ 0)))
 case atStart => exact ⟨0, n, Nat.zero_le _, Nat.le_refl _, by omega, rfl, rfl, Made.rfl_ _ _, fun k hk => absurd hk (Nat.not_lt_zero _), fun k h1 h2 => absurd h1 (by omega)⟩
 case round =>
  obtain ⟨i, j, hij, hjn, hgg, rfl, rfl, HB⟩ := hrel
  by_cases hlt : i < j
  ·obtain ⟨h, eh⟩ : ∃ h : Nat, (i + j) / 2 = h := ⟨_, rfl⟩
   have h1 : i ≤ h := by omega
   have h2 : h < j := by omega
   have eh' : ((i : Int) + (j : Int)) / 2 = (h : Int) := by omega
   have hcall := HS.out h wr (by omega) HB.out.1
   obtain ⟨z, ez⟩ : ∃ z, f h = z := ⟨_, rfl⟩
   rw [ez] at hcall
   have EZ := hid ez
   clear ez eh
   by_cases hz : 0 < z
   ·go_wp2_with (go_at_fn g; refine hcall.mono ?_; rintro e w' ⟨rfl, k1⟩)
    go_roundg (j - (h + 1))
    case measure => omega
    case rel =>
     refine ⟨h + 1, j, by omega, hjn, Nat.le_refl _, by go_num, rfl, HB.out.1.then_ (k1.low HB.out.1.1.size), fun k hk => ?_, HB.out.2.2⟩
     by_cases hp : 0 < f k
     ·exact hp
     ·have := HM.out k h (by omega) (by omega) (by omega)
      have := EZ.out
      omega
   ·go_wp2_with (go_at_fn g; refine hcall.mono ?_; rintro e w' ⟨rfl, k1⟩)
    go_roundg (h - i)
    case measure => omega
    case rel =>
     refine ⟨i, h, h1, by omega, Nat.le_refl _, rfl, rfl, HB.out.1.then_ (k1.low HB.out.1.1.size), HB.out.2.1, fun k h3 h4 => ?_⟩
     exact HM.out h k h3 h4 (by have := EZ.out; omega)
  ·have e : i = j := by omega
   subst e
   by_cases hin : i < n
   ·have hcall := HS.out i wr hin HB.out.1
    obtain ⟨z, ez⟩ : ∃ z, f i = z := ⟨_, rfl⟩
    rw [ez] at hcall
    have EZ := hid ez
    clear ez
    by_cases hz : z = 0
    ·have q : (z == 0) = true := by simpa using hz
     have HZ := hid hz
     clear hz
     go_wp2_with (go_at_fn g; refine hcall.mono ?_; rintro e w' ⟨rfl, k1⟩)
     refine bodyPost_ret (v := .tuple #[.int .i64 (i : Nat), .bool true]) (by simp [results, Tryz.results100, go_sem]) rfl ⟨i, true, hjn, rfl, HB.out.1.then_ (k1.low HB.out.1.1.size), HB.out.2.1, HB.out.2.2, ⟨fun _ => ⟨hin, EZ.out.trans HZ.out⟩, fun _ => rfl⟩⟩
    ·have q : (z == 0) = false := by simpa using hz
     have HZ := hid hz
     clear hz
     go_wp2_with (go_at_fn g; refine hcall.mono ?_; rintro e w' ⟨rfl, k1⟩)
     refine bodyPost_ret (v := .tuple #[.int .i64 (i : Nat), .bool false]) (by simp [results, Tryz.results100, go_sem]) rfl ⟨i, false, hjn, rfl, HB.out.1.then_ (k1.low HB.out.1.1.size), HB.out.2.1, HB.out.2.2, ⟨fun e => (by cases e), fun e => absurd (EZ.out.symm.trans e.2) HZ.out⟩⟩
   ·go_wp2_with fail
    refine bodyPost_ret (v := .tuple #[.int .i64 (i : Nat), .bool false]) (by simp [results, Tryz.results100, go_sem]) rfl ⟨i, false, hjn, rfl, HB.out.1, HB.out.2.1, HB.out.2.2, ⟨fun e => (by cases e), fun e => absurd e.1 hin⟩⟩
end Go.Proofs.YtjhcejmfiekjgaaGreat.Fx
/- find over bodies, joints and contacts; Body, Joint, exist. -/
namespace Go.Proofs.YtjhcejmfiekjgaaGreat.Fx
open Go.ChangeShapes Go.WideShapes Go.ChangeAt Go.RowKit
set_option linter.unusedVariables false
abbrev wdV (tk nb nj gx gy : Int) (sb sj sc : Value) : Value := .agg #[.int .i64 tk, .int .i64 nb, .int .i64 nj, .int .i64 gx, .int .i64 gy, sb, sj, sc]
theorem has_nxt' (w : World) (o : Obj) (t : TypeId) (A : Array Value) : Has ((w.alloc o).alloc (.cells A t)) (w.heap.size + 1) t A := by simpa using has_new (w.alloc o) t A
theorem findEB_c (g : Nat) (lb : Array Value) (eg : ∀ args w, (callFunc g args).run Tryz.prog w = .ok (.enter g args) w) (z : Int) (x : Bd) {l : List Bd} (ao : Option Addr) (i n c gb gl : Nat) (u : World) (hn : l.length = n) (hl : LsT encB 11 u ao l) (hx : l[i]? = some x)
  (h0 : u.cell? ⟨gb, 0, none⟩ = some (.func (.func g) #[] lb)) (h1 : u.cell? ⟨gl, 0, none⟩ = some (.slice ao n c)) (hmx : n ≤ 1073741824)
  (H : ∀ u', Made u.heap.size u u' → Calls Tryz.prog g (#[bdV x] ++ lb) u' fun e v => e = .returned (.int .i64 z) ∧ Made u'.heap.size u' v) :
  Calls Tryz.prog 101 #[.int .i64 (i : Nat), .pointer (some ⟨gb, 0, none⟩), .pointer (some ⟨gl, 0, none⟩)] u fun e v => e = .returned (.int .i64 z) ∧ Made u.heap.size u v := by
 have hin : i < n := by rw [← hn]; exact (List.getElem?_eq_some_iff.1 hx).1
 obtain ⟨b, off, rfl, hbl, hLB⟩ := hl (by omega)
 have hcells := (hLB i _ hx).b11
 have HH := hid H
 clear H hLB hx hl
 obtain ⟨x0, x1, x2, x3, x4, x5, x6, x7, x8, x9, x10, x11, x12, x13⟩ := x
 obtain ⟨a0, a1, a2, a3, a4, a5, a6, a7, a8, a9, a10⟩ := hcells
 simp only [] at a0 a1 a2 a3 a4 a5 a6 a7 a8 a9 a10
 go_enter Tryz.func101, Tryz.ntmps101
 go_wp2_with fail
 refine reg_made (by kernel_rfl) (by kernel_rfl) ?_
 intro T hT fw hf
 have h0 := Class.reads hf h0
 have h1 := Class.reads hf h1
 have a0 := Class.reads hf a0
 have a1 := Class.reads hf a1
 have a2 := Class.reads hf a2
 have a3 := Class.reads hf a3
 have a4 := Class.reads hf a4
 have a5 := Class.reads hf a5
 have a6 := Class.reads hf a6
 have a7 := Class.reads hf a7
 have a8 := Class.reads hf a8
 have a9 := Class.reads hf a9
 have a10 := Class.reads hf a10
 repeat (go_big_quiet_step ((go_at_fn g; exact hf.made (HH.out _ (hf.1 _)))))
 refine wpQuiet_nil ?_
 intro w3 h3
 have k3 := hf.here h3
 go_wp2_with fail
 go_ret
 exact ⟨rfl, k3⟩
theorem findB_c (g : Nat) (lb : Array Value) (eg : ∀ args w, (callFunc g args).run Tryz.prog w = .ok (.enter g args) w) (f : Nat → Int) {l : List Bd} {ao : Option Addr} {n c : Nat} {w : World} (hn : l.length = n) (hmx : n ≤ 1073741824) (hl : LsT encB 11 w ao l)
  (hm : ∀ i j, i < j → j < n → f i ≤ 0 → f j < 0)
  (hS : ∀ i x u, l[i]? = some x → Made w.heap.size w u → Calls Tryz.prog g (#[bdV x] ++ lb) u fun e v => e = .returned (.int .i64 (f i)) ∧ Made u.heap.size u v) :
  Calls Tryz.prog 57 #[.slice ao n c, .func (.func g) #[] lb] w fun e v => ∃ (i : Nat) (r : Bool), e = .returned (.tuple #[.int .i64 (i : Nat), .bool r]) ∧ Made w.heap.size w v ∧ (r = true → i < n ∧ f i = 0) ∧ (r = false → i = 0 ∧ ∀ k, k < n → f k ≠ 0) := by
 obtain ⟨W, eW⟩ : ∃ W, W = (w.alloc (.cells #[.slice ao n c] 27)).alloc (.cells #[.func (.func g) #[] lb] 125) := ⟨_, rfl⟩
 have kW : Made w.heap.size w W := by rw [eW]; exact ((Made.rfl_ _ _).cells (Nat.le_refl _) _ _).cells (by simp) _ _
 have c0 : W.cell? ⟨w.heap.size, 0, none⟩ = some (.slice ao n c) := by rw [eW]; exact (((has_new _ _ _).more _).at_ 0)
 have c1 : W.cell? ⟨w.heap.size + 1, 0, none⟩ = some (.func (.func g) #[] lb) := by rw [eW]; exact (has_nxt' _ _ _ _).at_ 0
 have HC := hid (sfind_c 101 #[.pointer (some ⟨w.heap.size + 1, 0, none⟩), .pointer (some ⟨w.heap.size, 0, none⟩)] (by intro args w; rfl) f (n := n) (w := W) hmx
  (fun i j hij hj h => by rcases Nat.lt_or_eq_of_le hij with h1 | h1
                          ·exact Int.le_of_lt (hm i j h1 hj h)
                          ·subst h1; exact h)
  (fun i u hi hu => by
   have hx : l[i]? = some l[i] := List.getElem?_eq_getElem (by rw [hn]; exact hi)
   exact findEB_c g lb eg (f i) l[i] ao i n c _ _ u hn ((hl.below kW.1).below hu.1) hx (hu.reads c1) (hu.reads c0) hmx (fun u' hu' => hS i _ u' hx (kW.then_ ((hu.then_ (hu'.low hu.1.size)).low kW.1.size)))))
 have KW := hid kW
 have HM := hid hm
 have l0 : w.heap.size < W.heap.size := World.block_lt_of_cell? _ _ c0
 have l1 : w.heap.size + 1 < W.heap.size := World.block_lt_of_cell? _ _ c1
 clear hn hl hS kW hm
 go_enter Tryz.func57, Tryz.ntmps57
 go_upto_region 1 with fail
 rw [← eW]
 clear eW
 go_wp2_with fail
 refine HC.out.mono ?_
 rintro e w1 ⟨i, r, hi, rfl, k1, h1', h2', h3'⟩
 have h1 := hid h1'
 have h2 := hid h2'
 have h3 := hid h3'
 clear h1' h2' h3'
 cases r with
 | true =>
  go_wp2_with fail
  refine bodyPost_ret (v := .tuple #[.int .i64 (i : Nat), .bool true]) (by simp [results, Tryz.results57, go_sem]) rfl ⟨i, true, rfl, KW.out.then_ (k1.low KW.out.1.size), fun _ => h3.out.1 (by simp), fun e => (by cases e)⟩
 | false =>
  go_wp2_with fail
  refine bodyPost_ret (v := .tuple #[.int .i64 ((0 : Nat) : Int), .bool false]) (by simp [results, Tryz.results57, go_sem]) rfl ⟨0, false, rfl, KW.out.then_ (k1.low KW.out.1.size), fun e => (by cases e), fun _ => ⟨rfl, fun k hk hz => ?_⟩⟩
  rcases Nat.lt_or_ge k i with h4 | h4
  ·have := h1.out k h4; omega
  ·have h5 : i < n := by omega
   have h6 : f i ≠ 0 := fun h => by have := h3.out.2 ⟨h5, h⟩; cases this
   have h7 := h2.out i (Nat.le_refl _) h5
   rcases Nat.lt_or_eq_of_le h4 with h8 | h8
   ·have := HM.out i k h8 hk h7; omega
   ·subst h8; exact h6 hz
theorem findEJ_c (g : Nat) (lb : Array Value) (eg : ∀ args w, (callFunc g args).run Tryz.prog w = .ok (.enter g args) w) (z : Int) (x : Jt) {l : List Jt} (ao : Option Addr) (i n c gb gl : Nat) (u : World) (hn : l.length = n) (hl : LsT encJ 8 u ao l) (hx : l[i]? = some x)
  (h0 : u.cell? ⟨gb, 0, none⟩ = some (.func (.func g) #[] lb)) (h1 : u.cell? ⟨gl, 0, none⟩ = some (.slice ao n c)) (hmx : n ≤ 1073741824)
  (H : ∀ u', Made u.heap.size u u' → Calls Tryz.prog g (#[jtV x] ++ lb) u' fun e v => e = .returned (.int .i64 z) ∧ Made u'.heap.size u' v) :
  Calls Tryz.prog 145 #[.int .i64 (i : Nat), .pointer (some ⟨gb, 0, none⟩), .pointer (some ⟨gl, 0, none⟩)] u fun e v => e = .returned (.int .i64 z) ∧ Made u.heap.size u v := by
 have hin : i < n := by rw [← hn]; exact (List.getElem?_eq_some_iff.1 hx).1
 obtain ⟨b, off, rfl, hbl, hLB⟩ := hl (by omega)
 have hcells := (hLB i _ hx).j8
 have HH := hid H
 clear H hLB hx hl
 obtain ⟨x0, x1, x2, x3, x4, x5, x6, x7⟩ := x
 obtain ⟨a0, a1, a2, a3, a4, a5, a6, a7⟩ := hcells
 simp only [] at a0 a1 a2 a3 a4 a5 a6 a7
 go_enter Tryz.func145, Tryz.ntmps145
 go_wp2_with fail
 refine reg_made (by kernel_rfl) (by kernel_rfl) ?_
 intro T hT fw hf
 have h0 := Class.reads hf h0
 have h1 := Class.reads hf h1
 have a0 := Class.reads hf a0
 have a1 := Class.reads hf a1
 have a2 := Class.reads hf a2
 have a3 := Class.reads hf a3
 have a4 := Class.reads hf a4
 have a5 := Class.reads hf a5
 have a6 := Class.reads hf a6
 have a7 := Class.reads hf a7
 repeat (go_big_quiet_step ((go_at_fn g; exact hf.made (HH.out _ (hf.1 _)))))
 refine wpQuiet_nil ?_
 intro w3 h3
 have k3 := hf.here h3
 go_wp2_with fail
 go_ret
 exact ⟨rfl, k3⟩
theorem findJ_c (g : Nat) (lb : Array Value) (eg : ∀ args w, (callFunc g args).run Tryz.prog w = .ok (.enter g args) w) (f : Nat → Int) {l : List Jt} {ao : Option Addr} {n c : Nat} {w : World} (hn : l.length = n) (hmx : n ≤ 1073741824) (hl : LsT encJ 8 w ao l)
  (hm : ∀ i j, i < j → j < n → f i ≤ 0 → f j < 0)
  (hS : ∀ i x u, l[i]? = some x → Made w.heap.size w u → Calls Tryz.prog g (#[jtV x] ++ lb) u fun e v => e = .returned (.int .i64 (f i)) ∧ Made u.heap.size u v) :
  Calls Tryz.prog 127 #[.slice ao n c, .func (.func g) #[] lb] w fun e v => ∃ (i : Nat) (r : Bool), e = .returned (.tuple #[.int .i64 (i : Nat), .bool r]) ∧ Made w.heap.size w v ∧ (r = true → i < n ∧ f i = 0) ∧ (r = false → i = 0 ∧ ∀ k, k < n → f k ≠ 0) := by
 obtain ⟨W, eW⟩ : ∃ W, W = (w.alloc (.cells #[.slice ao n c] 28)).alloc (.cells #[.func (.func g) #[] lb] 182) := ⟨_, rfl⟩
 have kW : Made w.heap.size w W := by rw [eW]; exact ((Made.rfl_ _ _).cells (Nat.le_refl _) _ _).cells (by simp) _ _
 have c0 : W.cell? ⟨w.heap.size, 0, none⟩ = some (.slice ao n c) := by rw [eW]; exact (((has_new _ _ _).more _).at_ 0)
 have c1 : W.cell? ⟨w.heap.size + 1, 0, none⟩ = some (.func (.func g) #[] lb) := by rw [eW]; exact (has_nxt' _ _ _ _).at_ 0
 have HC := hid (sfind_c 145 #[.pointer (some ⟨w.heap.size + 1, 0, none⟩), .pointer (some ⟨w.heap.size, 0, none⟩)] (by intro args w; rfl) f (n := n) (w := W) hmx
  (fun i j hij hj h => by rcases Nat.lt_or_eq_of_le hij with h1 | h1
                          ·exact Int.le_of_lt (hm i j h1 hj h)
                          ·subst h1; exact h)
  (fun i u hi hu => by
   have hx : l[i]? = some l[i] := List.getElem?_eq_getElem (by rw [hn]; exact hi)
   exact findEJ_c g lb eg (f i) l[i] ao i n c _ _ u hn ((hl.below kW.1).below hu.1) hx (hu.reads c1) (hu.reads c0) hmx (fun u' hu' => hS i _ u' hx (kW.then_ ((hu.then_ (hu'.low hu.1.size)).low kW.1.size)))))
 have KW := hid kW
 have HM := hid hm
 have l0 : w.heap.size < W.heap.size := World.block_lt_of_cell? _ _ c0
 have l1 : w.heap.size + 1 < W.heap.size := World.block_lt_of_cell? _ _ c1
 clear hn hl hS kW hm
 go_enter Tryz.func127, Tryz.ntmps127
 go_upto_region 1 with fail
 rw [← eW]
 clear eW
 go_wp2_with fail
 refine HC.out.mono ?_
 rintro e w1 ⟨i, r, hi, rfl, k1, h1', h2', h3'⟩
 have h1 := hid h1'
 have h2 := hid h2'
 have h3 := hid h3'
 clear h1' h2' h3'
 cases r with
 | true =>
  go_wp2_with fail
  refine bodyPost_ret (v := .tuple #[.int .i64 (i : Nat), .bool true]) (by simp [results, Tryz.results127, go_sem]) rfl ⟨i, true, rfl, KW.out.then_ (k1.low KW.out.1.size), fun _ => h3.out.1 (by simp), fun e => (by cases e)⟩
 | false =>
  go_wp2_with fail
  refine bodyPost_ret (v := .tuple #[.int .i64 ((0 : Nat) : Int), .bool false]) (by simp [results, Tryz.results127, go_sem]) rfl ⟨0, false, rfl, KW.out.then_ (k1.low KW.out.1.size), fun e => (by cases e), fun _ => ⟨rfl, fun k hk hz => ?_⟩⟩
  rcases Nat.lt_or_ge k i with h4 | h4
  ·have := h1.out k h4; omega
  ·have h5 : i < n := by omega
   have h6 : f i ≠ 0 := fun h => by have := h3.out.2 ⟨h5, h⟩; cases this
   have h7 := h2.out i (Nat.le_refl _) h5
   rcases Nat.lt_or_eq_of_le h4 with h8 | h8
   ·have := HM.out i k h8 hk h7; omega
   ·subst h8; exact h6 hz
theorem findEC_c (g : Nat) (lb : Array Value) (eg : ∀ args w, (callFunc g args).run Tryz.prog w = .ok (.enter g args) w) (z : Int) (x : Ct) {l : List Ct} (ao : Option Addr) (i n c gb gl : Nat) (u : World) (hn : l.length = n) (hl : LsT encC 5 u ao l) (hx : l[i]? = some x)
  (h0 : u.cell? ⟨gb, 0, none⟩ = some (.func (.func g) #[] lb)) (h1 : u.cell? ⟨gl, 0, none⟩ = some (.slice ao n c)) (hmx : n ≤ 1073741824)
  (H : ∀ u', Made u.heap.size u u' → Calls Tryz.prog g (#[ctV x] ++ lb) u' fun e v => e = .returned (.int .i64 z) ∧ Made u'.heap.size u' v) :
  Calls Tryz.prog 140 #[.int .i64 (i : Nat), .pointer (some ⟨gb, 0, none⟩), .pointer (some ⟨gl, 0, none⟩)] u fun e v => e = .returned (.int .i64 z) ∧ Made u.heap.size u v := by
 have hin : i < n := by rw [← hn]; exact (List.getElem?_eq_some_iff.1 hx).1
 obtain ⟨b, off, rfl, hbl, hLB⟩ := hl (by omega)
 have hcells := (hLB i _ hx).c5
 have HH := hid H
 clear H hLB hx hl
 obtain ⟨x0, x1, x2, x3, x4⟩ := x
 obtain ⟨a0, a1, a2, a3, a4⟩ := hcells
 simp only [] at a0 a1 a2 a3 a4
 go_enter Tryz.func140, Tryz.ntmps140
 go_wp2_with fail
 refine reg_made (by kernel_rfl) (by kernel_rfl) ?_
 intro T hT fw hf
 have h0 := Class.reads hf h0
 have h1 := Class.reads hf h1
 have a0 := Class.reads hf a0
 have a1 := Class.reads hf a1
 have a2 := Class.reads hf a2
 have a3 := Class.reads hf a3
 have a4 := Class.reads hf a4
 repeat (go_big_quiet_step ((go_at_fn g; exact hf.made (HH.out _ (hf.1 _)))))
 refine wpQuiet_nil ?_
 intro w3 h3
 have k3 := hf.here h3
 go_wp2_with fail
 go_ret
 exact ⟨rfl, k3⟩
theorem findC_c (g : Nat) (lb : Array Value) (eg : ∀ args w, (callFunc g args).run Tryz.prog w = .ok (.enter g args) w) (f : Nat → Int) {l : List Ct} {ao : Option Addr} {n c : Nat} {w : World} (hn : l.length = n) (hmx : n ≤ 1073741824) (hl : LsT encC 5 w ao l)
  (hm : ∀ i j, i < j → j < n → f i ≤ 0 → f j < 0)
  (hS : ∀ i x u, l[i]? = some x → Made w.heap.size w u → Calls Tryz.prog g (#[ctV x] ++ lb) u fun e v => e = .returned (.int .i64 (f i)) ∧ Made u.heap.size u v) :
  Calls Tryz.prog 116 #[.slice ao n c, .func (.func g) #[] lb] w fun e v => ∃ (i : Nat) (r : Bool), e = .returned (.tuple #[.int .i64 (i : Nat), .bool r]) ∧ Made w.heap.size w v ∧ (r = true → i < n ∧ f i = 0) ∧ (r = false → i = 0 ∧ ∀ k, k < n → f k ≠ 0) := by
 obtain ⟨W, eW⟩ : ∃ W, W = (w.alloc (.cells #[.slice ao n c] 29)).alloc (.cells #[.func (.func g) #[] lb] 177) := ⟨_, rfl⟩
 have kW : Made w.heap.size w W := by rw [eW]; exact ((Made.rfl_ _ _).cells (Nat.le_refl _) _ _).cells (by simp) _ _
 have c0 : W.cell? ⟨w.heap.size, 0, none⟩ = some (.slice ao n c) := by rw [eW]; exact (((has_new _ _ _).more _).at_ 0)
 have c1 : W.cell? ⟨w.heap.size + 1, 0, none⟩ = some (.func (.func g) #[] lb) := by rw [eW]; exact (has_nxt' _ _ _ _).at_ 0
 have HC := hid (sfind_c 140 #[.pointer (some ⟨w.heap.size + 1, 0, none⟩), .pointer (some ⟨w.heap.size, 0, none⟩)] (by intro args w; rfl) f (n := n) (w := W) hmx
  (fun i j hij hj h => by rcases Nat.lt_or_eq_of_le hij with h1 | h1
                          ·exact Int.le_of_lt (hm i j h1 hj h)
                          ·subst h1; exact h)
  (fun i u hi hu => by
   have hx : l[i]? = some l[i] := List.getElem?_eq_getElem (by rw [hn]; exact hi)
   exact findEC_c g lb eg (f i) l[i] ao i n c _ _ u hn ((hl.below kW.1).below hu.1) hx (hu.reads c1) (hu.reads c0) hmx (fun u' hu' => hS i _ u' hx (kW.then_ ((hu.then_ (hu'.low hu.1.size)).low kW.1.size)))))
 have KW := hid kW
 have HM := hid hm
 have l0 : w.heap.size < W.heap.size := World.block_lt_of_cell? _ _ c0
 have l1 : w.heap.size + 1 < W.heap.size := World.block_lt_of_cell? _ _ c1
 clear hn hl hS kW hm
 go_enter Tryz.func116, Tryz.ntmps116
 go_upto_region 1 with fail
 rw [← eW]
 clear eW
 go_wp2_with fail
 refine HC.out.mono ?_
 rintro e w1 ⟨i, r, hi, rfl, k1, h1', h2', h3'⟩
 have h1 := hid h1'
 have h2 := hid h2'
 have h3 := hid h3'
 clear h1' h2' h3'
 cases r with
 | true =>
  go_wp2_with fail
  refine bodyPost_ret (v := .tuple #[.int .i64 (i : Nat), .bool true]) (by simp [results, Tryz.results116, go_sem]) rfl ⟨i, true, rfl, KW.out.then_ (k1.low KW.out.1.size), fun _ => h3.out.1 (by simp), fun e => (by cases e)⟩
 | false =>
  go_wp2_with fail
  refine bodyPost_ret (v := .tuple #[.int .i64 ((0 : Nat) : Int), .bool false]) (by simp [results, Tryz.results116, go_sem]) rfl ⟨0, false, rfl, KW.out.then_ (k1.low KW.out.1.size), fun e => (by cases e), fun _ => ⟨rfl, fun k hk hz => ?_⟩⟩
  rcases Nat.lt_or_ge k i with h4 | h4
  ·have := h1.out k h4; omega
  ·have h5 : i < n := by omega
   have h6 : f i ≠ 0 := fun h => by have := h3.out.2 ⟨h5, h⟩; cases this
   have h7 := h2.out i (Nat.le_refl _) h5
   rcases Nat.lt_or_eq_of_le h4 with h8 | h8
   ·have := HM.out i k h8 hk h7; omega
   ·subst h8; exact h6 hz
theorem body1_c (id : Int) (x : Bd) (gi : Nat) (u : World) (h0 : u.cell? ⟨gi, 0, none⟩ = some (.int .i64 id)) :
  Calls Tryz.prog 58 #[bdV x, .pointer (some ⟨gi, 0, none⟩)] u fun e v => e = .returned (.int .i64 (cmpG id x.id)) ∧ Made u.heap.size u v := by
 have hlt : gi < u.heap.size := World.block_lt_of_cell? u _ h0
 obtain ⟨x0, x1, x2, x3, x4, x5, x6, x7, x8, x9, x10, x11, x12, x13⟩ := x
 have H := hid (fun w => cmpW_c id x0 w)
 simp only []
 generalize cmpG id x0 = r at H ⊢
 go_enter Tryz.func58, Tryz.ntmps58
 go_wp2_with (go_at_call 59; refine (H.out _).mono ?_; rintro e w' ⟨rfl, rfl⟩)
 go_ret
 exact ⟨rfl, (Made.rfl_ _ _).cells (Nat.le_refl _) _ _⟩
theorem wbody_c (tk nb nj gx gy : Int) (oj oc : Option Addr) (nn cj nc cc : Nat) {l : List Bd} {ao : Option Addr} {n c : Nat} {w : World} (id : Int) (hn : l.length = n) (hmx : n ≤ 1073741824) (hl : LsT encB 11 w ao l) (hup : (l.map (·.id)).Pairwise (· < ·)) :
  Calls Tryz.prog 24 #[wdV tk nb nj gx gy (.slice ao n c) (.slice oj nn cj) (.slice oc nc cc), .int .i64 id] w fun e v => ∃ (i : Nat) (r : Bool), e = .returned (.tuple #[.int .i64 (i : Nat), .bool r]) ∧ Made w.heap.size w v ∧ (r = true → ∃ x, l[i]? = some x ∧ x.id = id) ∧ (r = false → i = 0 ∧ ∀ x ∈ l, x.id ≠ id) := by
 obtain ⟨W, eW⟩ : ∃ W, W = (w.alloc (.cells #[.int .i64 tk, .int .i64 nb, .int .i64 nj, .int .i64 gx, .int .i64 gy, .slice ao n c, .slice oj nn cj, .slice oc nc cc] 31)).alloc (.cells #[.int .i64 id] 3) := ⟨_, rfl⟩
 have kW : Made w.heap.size w W := by rw [eW]; exact ((Made.rfl_ _ _).cells (Nat.le_refl _) _ _).cells (by simp) _ _
 have c5 : W.cell? ⟨w.heap.size, 5, none⟩ = some (.slice ao n c) := by rw [eW]; exact (((has_new _ _ _).more _).at_ 5)
 have c1 : W.cell? ⟨w.heap.size + 1, 0, none⟩ = some (.int .i64 id) := by rw [eW]; exact (has_nxt' _ _ _ _).at_ 0
 have hlt : ∀ i j (x y : Bd), i < j → l[i]? = some x → l[j]? = some y → x.id < y.id := fun i j x y hij hx hy => by
  have := List.pairwise_iff_getElem.1 hup i j (by simpa using (List.getElem?_eq_some_iff.1 hx).1) (by simpa using (List.getElem?_eq_some_iff.1 hy).1) hij
  simpa [(List.getElem?_eq_some_iff.1 hx).2, (List.getElem?_eq_some_iff.1 hy).2] using this
 have gx : ∀ i, i < n → ∃ x, l[i]? = some x := fun i hi => ⟨_, List.getElem?_eq_getElem (by rw [hn]; exact hi)⟩
 have HC := hid (findB_c 58 #[.pointer (some ⟨w.heap.size + 1, 0, none⟩)] (by intro args w; rfl) (fun i => match l[i]? with | some x => cmpG id x.id | none => 0) (c := c) (w := W) hn hmx (hl.below kW.1)
  (fun i j hij hj h => by
   obtain ⟨x, hx⟩ := gx i (by omega)
   obtain ⟨y, hy⟩ := gx j hj
   have := hlt i j x y hij hx hy
   simp only [hx, hy] at h ⊢
   have h1 := cmpG_pos id x.id
   have h2 := cmpG_neg id y.id
   omega)
  (fun i x u hx hu => by
   simp only [hx]
   exact body1_c id x _ u (hu.reads c1)))
 have KW := hid kW
 have HG := hid gx
 have l0 : w.heap.size < W.heap.size := World.block_lt_of_cell? _ _ c5
 have l1 : w.heap.size + 1 < W.heap.size := World.block_lt_of_cell? _ _ c1
 clear hl kW hup hlt gx
 have HN := hid hn
 clear hn
 go_enter Tryz.func24, Tryz.ntmps24
 go_upto_region 1 with fail
 rw [← eW]
 clear eW
 go_wp2_with fail
 refine HC.out.mono ?_
 rintro e w1 ⟨i, r, rfl, k1, h1, h2⟩
 go_wp2_with fail
 refine bodyPost_ret (v := .tuple #[.int .i64 (i : Nat), .bool r]) (by simp [results, Tryz.results24, go_sem]) rfl ⟨i, r, rfl, KW.out.then_ (k1.low KW.out.1.size), fun hr => ?_, fun hr => ⟨(h2 hr).1, fun x hx e => ?_⟩⟩
 ·obtain ⟨h3, h4⟩ := h1 hr
  obtain ⟨x, hx⟩ := HG.out i h3
  simp only [hx] at h4
  exact ⟨x, hx, ((cmpG_zero _ _).1 h4).symm⟩
 ·obtain ⟨j, hj⟩ := List.mem_iff_getElem?.1 hx
  have h3 := (h2 hr).2 j (by rw [← HN.out]; exact (List.getElem?_eq_some_iff.1 hj).1)
  simp only [hj] at h3
  exact h3 ((cmpG_zero _ _).2 e.symm)
theorem joint1_c (id : Int) (x : Jt) (gi : Nat) (u : World) (h0 : u.cell? ⟨gi, 0, none⟩ = some (.int .i64 id)) :
  Calls Tryz.prog 128 #[jtV x, .pointer (some ⟨gi, 0, none⟩)] u fun e v => e = .returned (.int .i64 (cmpG id x.id)) ∧ Made u.heap.size u v := by
 have hlt : gi < u.heap.size := World.block_lt_of_cell? u _ h0
 obtain ⟨x0, x1, x2, x3, x4, x5, x6, x7⟩ := x
 have H := hid (fun w => cmpW_c id x0 w)
 simp only []
 generalize cmpG id x0 = r at H ⊢
 go_enter Tryz.func128, Tryz.ntmps128
 go_wp2_with (go_at_call 59; refine (H.out _).mono ?_; rintro e w' ⟨rfl, rfl⟩)
 go_ret
 exact ⟨rfl, (Made.rfl_ _ _).cells (Nat.le_refl _) _ _⟩
theorem wjoint_c (tk nb nj gx gy : Int) (ob oc : Option Addr) (nn cb nc cc : Nat) {l : List Jt} {ao : Option Addr} {n c : Nat} {w : World} (id : Int) (hn : l.length = n) (hmx : n ≤ 1073741824) (hl : LsT encJ 8 w ao l) (hup : (l.map (·.id)).Pairwise (· < ·)) :
  Calls Tryz.prog 97 #[wdV tk nb nj gx gy (.slice ob nn cb) (.slice ao n c) (.slice oc nc cc), .int .i64 id] w fun e v => ∃ (i : Nat) (r : Bool), e = .returned (.tuple #[.int .i64 (i : Nat), .bool r]) ∧ Made w.heap.size w v ∧ (r = true → ∃ x, l[i]? = some x ∧ x.id = id) ∧ (r = false → i = 0 ∧ ∀ x ∈ l, x.id ≠ id) := by
 obtain ⟨W, eW⟩ : ∃ W, W = (w.alloc (.cells #[.int .i64 tk, .int .i64 nb, .int .i64 nj, .int .i64 gx, .int .i64 gy, .slice ob nn cb, .slice ao n c, .slice oc nc cc] 31)).alloc (.cells #[.int .i64 id] 3) := ⟨_, rfl⟩
 have kW : Made w.heap.size w W := by rw [eW]; exact ((Made.rfl_ _ _).cells (Nat.le_refl _) _ _).cells (by simp) _ _
 have c5 : W.cell? ⟨w.heap.size, 6, none⟩ = some (.slice ao n c) := by rw [eW]; exact (((has_new _ _ _).more _).at_ 6)
 have c1 : W.cell? ⟨w.heap.size + 1, 0, none⟩ = some (.int .i64 id) := by rw [eW]; exact (has_nxt' _ _ _ _).at_ 0
 have hlt : ∀ i j (x y : Jt), i < j → l[i]? = some x → l[j]? = some y → x.id < y.id := fun i j x y hij hx hy => by
  have := List.pairwise_iff_getElem.1 hup i j (by simpa using (List.getElem?_eq_some_iff.1 hx).1) (by simpa using (List.getElem?_eq_some_iff.1 hy).1) hij
  simpa [(List.getElem?_eq_some_iff.1 hx).2, (List.getElem?_eq_some_iff.1 hy).2] using this
 have gx : ∀ i, i < n → ∃ x, l[i]? = some x := fun i hi => ⟨_, List.getElem?_eq_getElem (by rw [hn]; exact hi)⟩
 have HC := hid (findJ_c 128 #[.pointer (some ⟨w.heap.size + 1, 0, none⟩)] (by intro args w; rfl) (fun i => match l[i]? with | some x => cmpG id x.id | none => 0) (c := c) (w := W) hn hmx (hl.below kW.1)
  (fun i j hij hj h => by
   obtain ⟨x, hx⟩ := gx i (by omega)
   obtain ⟨y, hy⟩ := gx j hj
   have := hlt i j x y hij hx hy
   simp only [hx, hy] at h ⊢
   have h1 := cmpG_pos id x.id
   have h2 := cmpG_neg id y.id
   omega)
  (fun i x u hx hu => by
   simp only [hx]
   exact joint1_c id x _ u (hu.reads c1)))
 have KW := hid kW
 have HG := hid gx
 have l0 : w.heap.size < W.heap.size := World.block_lt_of_cell? _ _ c5
 have l1 : w.heap.size + 1 < W.heap.size := World.block_lt_of_cell? _ _ c1
 clear hl kW hup hlt gx
 have HN := hid hn
 clear hn
 go_enter Tryz.func97, Tryz.ntmps97
 go_upto_region 1 with fail
 rw [← eW]
 clear eW
 go_wp2_with fail
 refine HC.out.mono ?_
 rintro e w1 ⟨i, r, rfl, k1, h1, h2⟩
 go_wp2_with fail
 refine bodyPost_ret (v := .tuple #[.int .i64 (i : Nat), .bool r]) (by simp [results, Tryz.results97, go_sem]) rfl ⟨i, r, rfl, KW.out.then_ (k1.low KW.out.1.size), fun hr => ?_, fun hr => ⟨(h2 hr).1, fun x hx e => ?_⟩⟩
 ·obtain ⟨h3, h4⟩ := h1 hr
  obtain ⟨x, hx⟩ := HG.out i h3
  simp only [hx] at h4
  exact ⟨x, hx, ((cmpG_zero _ _).1 h4).symm⟩
 ·obtain ⟨j, hj⟩ := List.mem_iff_getElem?.1 hx
  have h3 := (h2 hr).2 j (by rw [← HN.out]; exact (List.getElem?_eq_some_iff.1 hj).1)
  simp only [hj] at h3
  exact h3 ((cmpG_zero _ _).2 e.symm)
theorem exist_c (tk nb nj gx gy : Int) (oj oc : Option Addr) (nn cj nc cc : Nat) {l : List Bd} {ao : Option Addr} {n c : Nat} {w : World} (a b : Int) (r : Bool) (hn : l.length = n) (hmx : n ≤ 1073741824) (hl : LsT encB 11 w ao l) (hup : (l.map (·.id)).Pairwise (· < ·)) (hr : r = true ↔ a ∈ l.map (·.id) ∧ b ∈ l.map (·.id)) :
  Calls Tryz.prog 89 #[wdV tk nb nj gx gy (.slice ao n c) (.slice oj nn cj) (.slice oc nc cc), .int .i64 a, .int .i64 b] w fun e v => e = .returned (.bool r) ∧ Made w.heap.size w v := by
 obtain ⟨W, eW⟩ : ∃ W, W = w.alloc (.cells #[.int .i64 tk, .int .i64 nb, .int .i64 nj, .int .i64 gx, .int .i64 gy, .slice ao n c, .slice oj nn cj, .slice oc nc cc] 31) := ⟨_, rfl⟩
 have kW : Made w.heap.size w W := by rw [eW]; exact (Made.rfl_ _ _).cells (Nat.le_refl _) _ _
 have hW : Has W w.heap.size 31 #[.int .i64 tk, .int .i64 nb, .int .i64 nj, .int .i64 gx, .int .i64 gy, .slice ao n c, .slice oj nn cj, .slice oc nc cc] := by rw [eW]; exact has_new _ _ _
 have HL := hid (fun v (k : Made w.heap.size w v) => hl.below k.1)
 have HU := hid hup
 have HR := hid hr
 have HN := hid hn
 clear hl hup hr hn
 obtain ⟨g0, eg⟩ : ∃ g, w.heap.size = g := ⟨_, rfl⟩
 have KW := hid kW
 have HB := hid hW
 rw [eg] at HB
 clear kW hW
 have b0 := HB.out.at_ 0
 have b1 := HB.out.at_ 1
 have b2 := HB.out.at_ 2
 have b3 := HB.out.at_ 3
 have b4 := HB.out.at_ 4
 have b5 := HB.out.at_ 5
 have b6 := HB.out.at_ 6
 have b7 := HB.out.at_ 7
 simp at b0 b1 b2 b3 b4 b5 b6 b7
 have lt0 : g0 < W.heap.size := HB.out.here
 go_enter Tryz.func89, Tryz.ntmps89
 go_upto_region 1 with fail
 rw [← eW]
 clear eW
 try rw [eg]
 go_wp2_with fail
 refine (wbody_c tk nb nj gx gy oj oc nn cj nc cc a HN.out hmx (HL.out _ KW.out) HU.out).mono ?_
 rintro e w1 ⟨i, r1, rfl, k1, h1, h2⟩
 have K1 : Hid (Made w.heap.size w w1) := KW.out.then_ (k1.low KW.out.1.size)
 have HB1 := hid (HB.out.stays k1 HB.out.here)
 have H1 : Hid (r1 = true ↔ a ∈ l.map (·.id)) := by
  unfold Hid
  cases r1 with
  | true => obtain ⟨x, hx, e⟩ := h1 rfl; exact ⟨fun _ => List.mem_map.2 ⟨x, List.mem_of_getElem? hx, e⟩, fun _ => rfl⟩
  | false => exact ⟨fun e => (by cases e), fun h => by obtain ⟨x, hx, e⟩ := List.mem_map.1 h; exact absurd e ((h2 rfl).2 x hx)⟩
 clear b0 b1 b2 b3 b4 b5 b6 b7 k1 h1 h2 lt0
 have b0 := HB1.out.at_ 0
 have b1 := HB1.out.at_ 1
 have b2 := HB1.out.at_ 2
 have b3 := HB1.out.at_ 3
 have b4 := HB1.out.at_ 4
 have b5 := HB1.out.at_ 5
 have b6 := HB1.out.at_ 6
 have b7 := HB1.out.at_ 7
 simp at b0 b1 b2 b3 b4 b5 b6 b7
 go_wp2_with fail
 refine (wbody_c tk nb nj gx gy oj oc nn cj nc cc b HN.out hmx (HL.out _ K1.out) HU.out).mono ?_
 rintro e w2 ⟨j, r2, rfl, k2, h1, h2⟩
 have K2 : Hid (Made w.heap.size w w2) := K1.out.then_ (k2.low K1.out.1.size)
 have H2 : Hid (r2 = true ↔ b ∈ l.map (·.id)) := by
  unfold Hid
  cases r2 with
  | true => obtain ⟨x, hx, e⟩ := h1 rfl; exact ⟨fun _ => List.mem_map.2 ⟨x, List.mem_of_getElem? hx, e⟩, fun _ => rfl⟩
  | false => exact ⟨fun e => (by cases e), fun h => by obtain ⟨x, hx, e⟩ := List.mem_map.1 h; exact absurd e ((h2 rfl).2 x hx)⟩
 clear b0 b1 b2 b3 b4 b5 b6 b7 k2 h1 h2
 have HF : Hid (r = (r1 && r2)) := by
  unfold Hid; rw [Bool.eq_iff_iff, HR.out, Bool.and_eq_true, H1.out, H2.out]
 cases r1 with
 | true =>
  go_wp2_with fail
  go_ret
  exact ⟨by rw [HF.out]; rfl, eg ▸ K2.out⟩
 | false =>
  go_wp2_with fail
  go_ret
  exact ⟨by rw [HF.out]; rfl, eg ▸ K2.out⟩
end Go.Proofs.YtjhcejmfiekjgaaGreat.Fx