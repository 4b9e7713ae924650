/- WoX -/
import Derived.Test.YtjhcejmfiekjgaaGreatSt7
import Derived.Test.YtjhcejmfiekjgaaGreatSt9
import Derived.BigQuiet
set_option maxRecDepth 100000
set_option maxHeartbeats 64000000
/- AddBody. -/
namespace Go.Proofs.YtjhcejmfiekjgaaGreat.Fx
open Go.ChangeShapes Go.WideShapes Go.ChangeAt Go.RowKit
set_option linter.unusedVariables false
structure WLs (X : Nat → Prop) (w : World) (ob : Option Addr) (cb : Nat) (B : List Bd) (oj : Option Addr) (cj : Nat) (J : List Jt) (oc : Option Addr) (cc : Nat) (C : List Ct) : Prop where
 at_ : WdAt w ob B oj J oc C
 okB : SlOk ob B.length cb
 okJ : SlOk oj J.length cj
 okC : SlOk oc C.length cc
 offB : 0 < B.length → Offs X ob
 offJ : 0 < J.length → Offs X oj
 offC : 0 < C.length → Offs X oc
 offP : ∀ b ∈ B, 0 < b.n → Offs X b.ao
 okP : ∀ b ∈ B, (b.ao = none ∧ b.n = 0 ∧ b.c = 0) ∨ ∃ a, b.ao = some a
theorem LsT.but' {α : Type} {enc : α → List Value} {k : Nat} {X : Nat → Prop} {w v : World} {ao : Option Addr} {l : List α} (h : LsT enc k w ao l) (kk : But X w v) (hx : 0 < l.length → Offs X ao) : LsT enc k v ao l := fun hl => h.but kk (hx hl) hl
theorem WLs.but {X Y : Nat → Prop} {w v : World} {ob oj oc : Option Addr} {cb cj cc : Nat} {B : List Bd} {J : List Jt} {C : List Ct} (h : WLs X w ob cb B oj cj J oc cc C) (k : But Y w v) (hY : ∀ b, Y b → X b) : WLs X v ob cb B oj cj J oc cc C :=
 have k : But X w v := k.up (fun b _ => hY b)
 ⟨⟨h.at_.lB.but' k h.offB, h.at_.lJ.but' k h.offJ, h.at_.lC.but' k h.offC, fun b hb => ⟨fun hn => (h.at_.sB b hb).1.but k (h.offP b hb hn) hn, (h.at_.sB b hb).2⟩, h.at_.iJ, h.at_.iC⟩, h.okB, h.okJ, h.okC, h.offB, h.offJ, h.offC, h.offP, h.okP⟩
theorem WLs.kept {X : Nat → Prop} {w v : World} {ob oj oc : Option Addr} {cb cj cc : Nat} {B : List Bd} {J : List Jt} {C : List Ct} (h : WLs X w ob cb B oj cj J oc cc C) (k : Made w.heap.size w v) : WLs X v ob cb B oj cj J oc cc C :=
 h.but (Y := Nil0) (Made.but k) (fun _ h => h.elim)
def WVar (X : Nat → Prop) (w : World) (gw : Nat) (tk nb nj gx gy : Int) (B : List Bd) (J : List Jt) (C : List Ct) : Prop :=
 ∃ ob oj oc cb cj cc, Has w gw 31 #[.int .i64 tk, .int .i64 nb, .int .i64 nj, .int .i64 gx, .int .i64 gy, .slice ob B.length cb, .slice oj J.length cj, .slice oc C.length cc] ∧ WLs X w ob cb B oj cj J oc cc C
def WVarO (oc : Option Addr) (cc : Nat) (X : Nat → Prop) (w : World) (gw : Nat) (tk nb nj gx gy : Int) (B : List Bd) (J : List Jt) (C : List Ct) : Prop :=
 ∃ ob oj cb cj, Has w gw 31 #[.int .i64 tk, .int .i64 nb, .int .i64 nj, .int .i64 gx, .int .i64 gy, .slice ob B.length cb, .slice oj J.length cj, .slice oc C.length cc] ∧ WLs X w ob cb B oj cj J oc cc C
theorem WVarO.up {oc : Option Addr} {cc : Nat} {X : Nat → Prop} {w : World} {gw : Nat} {tk nb nj gx gy : Int} {B : List Bd} {J : List Jt} {C : List Ct} (h : WVarO oc cc X w gw tk nb nj gx gy B J C) : WVar X w gw tk nb nj gx gy B J C := by
 obtain ⟨ob, oj, cb, cj, hH, hL⟩ := h
 exact ⟨ob, oj, oc, cb, cj, cc, hH, hL⟩
theorem WVar.down {X : Nat → Prop} {w : World} {gw : Nat} {tk nb nj gx gy : Int} {B : List Bd} {J : List Jt} {C : List Ct} (h : WVar X w gw tk nb nj gx gy B J C) : ∃ oc cc, WVarO oc cc X w gw tk nb nj gx gy B J C := by
 obtain ⟨ob, oj, oc, cb, cj, cc, hH, hL⟩ := h
 exact ⟨oc, cc, ob, oj, cb, cj, hH, hL⟩
theorem WVarO.kept {oc : Option Addr} {cc : Nat} {X : Nat → Prop} {w v : World} {gw : Nat} {tk nb nj gx gy : Int} {B : List Bd} {J : List Jt} {C : List Ct} (h : WVarO oc cc X w gw tk nb nj gx gy B J C) (k : Made w.heap.size w v) : WVarO oc cc X v gw tk nb nj gx gy B J C := by
 obtain ⟨ob, oj, cb, cj, hH, hL⟩ := h
 exact ⟨ob, oj, cb, cj, hH.stays k hH.here, hL.kept k⟩
theorem WVar.kept {X : Nat → Prop} {w v : World} {gw : Nat} {tk nb nj gx gy : Int} {B : List Bd} {J : List Jt} {C : List Ct} (h : WVar X w gw tk nb nj gx gy B J C) (k : Made w.heap.size w v) : WVar X v gw tk nb nj gx gy B J C := by
 obtain ⟨ob, oj, oc, cb, cj, cc, hH, hL⟩ := h
 exact ⟨ob, oj, oc, cb, cj, cc, hH.stays k hH.here, hL.kept k⟩
theorem WVar.but {X Y : Nat → Prop} {w v : World} {gw : Nat} {tk nb nj gx gy : Int} {B : List Bd} {J : List Jt} {C : List Ct} (h : WVar X w gw tk nb nj gx gy B J C) (k : But Y w v) (hY : ∀ b, Y b → X b) (hg : ¬ Y gw) : WVar X v gw tk nb nj gx gy B J C := by
 obtain ⟨ob, oj, oc, cb, cj, cc, hH, hL⟩ := h
 exact ⟨ob, oj, oc, cb, cj, cc, hH.but k hg, hL.but k hY⟩
theorem WVar.here {X : Nat → Prop} {w : World} {gw : Nat} {tk nb nj gx gy : Int} {B : List Bd} {J : List Jt} {C : List Ct} (h : WVar X w gw tk nb nj gx gy B J C) : gw < w.heap.size := by
 obtain ⟨ob, oj, oc, cb, cj, cc, hH, hL⟩ := h
 exact hH.here
def alS (ao : Nat → Option Addr) (n : Nat) (f : Cs) (i : Nat) (v : World) (g e : Nat) : Prop := CornersAt v (ao g) g n f
theorem alS_lasts (ao : Nat → Option Addr) (n : Nat) (f : Cs) : MK.Lasts (alS ao n f) := fun i u v g e h hg k => CornersAt.kept h k
def valS (K R : Int) (ao : Nat → Option Addr) (n : Nat) (ac : Nat → Nat) (i g e : Nat) : Value := shapeV K R (.slice (ao g) n (ac e))
def alW {α : Type} (enc : α → List Value) (k : Nat) (t : TypeId) (n : Nat) (l : List α) (i : Nat) (v : World) (g e : Nat) : Prop := RowL enc k v g t n l ∧ n ≤ e ∧ e ≤ maxLen
theorem alW_lasts {α : Type} (enc : α → List Value) (k : Nat) (t : TypeId) (n : Nat) (l : List α) : MK.Lasts (alW enc k t n l) := fun i u v g e h hg kk => ⟨h.1.stays kk hg, h.2⟩
def valW (n i g e : Nat) : Value := .slice (some ⟨g, 0, none⟩) n e
theorem right_n {K R : Int} {n : Nat} {f : Cs} (h : RightP K R n f) : n ≤ 8 := by
 rcases h with h | h
 ·omega
 ·exact h.2.2.2.1
def AddedB (X : Nat → Prop) (w : World) (gw : Nat) (tk nb nj gx gy : Int) (B : List Bd) (J : List Jt) (C : List Ct) (b : Bd) (e : Ending) (v : World) : Prop :=
 (¬ BodyP b ∧ e = .returned (.tuple #[.int .i64 0, .int .i64 2]) ∧ Made w.heap.size w v) ∨
 (BodyP b ∧ (1024 ≤ B.length ∨ 4611686018427387904 ≤ nb) ∧ e = .returned (.tuple #[.int .i64 0, .int .i64 3]) ∧ Made w.heap.size w v) ∨
 (BodyP b ∧ B.length < 1024 ∧ nb < 4611686018427387904 ∧ e = .returned (.tuple #[.int .i64 nb, .int .i64 0]) ∧ But (fun g => g = gw) w v ∧
  ∃ ao c, WVar X v gw tk (nb + 1) nj gx gy (B ++ [⟨nb, b.x, b.y, b.vx, b.vy, b.an, b.sp, b.de, b.k, b.r, ao, b.n, c, b.f⟩]) J C)
def AddedBO (oc : Option Addr) (cc : Nat) (X : Nat → Prop) (w : World) (gw : Nat) (tk nb nj gx gy : Int) (B : List Bd) (J : List Jt) (C : List Ct) (b : Bd) (e : Ending) (v : World) : Prop :=
 (¬ BodyP b ∧ e = .returned (.tuple #[.int .i64 0, .int .i64 2]) ∧ Made w.heap.size w v) ∨
 (BodyP b ∧ (1024 ≤ B.length ∨ 4611686018427387904 ≤ nb) ∧ e = .returned (.tuple #[.int .i64 0, .int .i64 3]) ∧ Made w.heap.size w v) ∨
 (BodyP b ∧ B.length < 1024 ∧ nb < 4611686018427387904 ∧ e = .returned (.tuple #[.int .i64 nb, .int .i64 0]) ∧ But (fun g => g = gw) w v ∧
  ∃ ao c, WVarO oc cc X v gw tk (nb + 1) nj gx gy (B ++ [⟨nb, b.x, b.y, b.vx, b.vy, b.an, b.sp, b.de, b.k, b.r, ao, b.n, c, b.f⟩]) J C)
theorem addBody_o {oc : Option Addr} {cc : Nat} {X : Nat → Prop} {w : World} {gw : Nat} {tk nb nj gx gy : Int} {B : List Bd} {J : List Jt} {C : List Ct} (b : Bd) (hV : WVarO oc cc X w gw tk nb nj gx gy B J C) (hXg : X gw) (hXw : ∀ b, X b → b < w.heap.size) (hs : Sl w b.ao b.n b.f) (hi : BdI b) (ho : (b.ao = none ∧ b.n = 0 ∧ b.c = 0) ∨ ∃ a, b.ao = some a) (inb : I64 nb) (hnb : 1 ≤ nb) :
  Calls Tryz.prog 18 #[.pointer (some ⟨gw, 0, none⟩), bdV b] w (AddedBO oc cc X w gw tk nb nj gx gy B J C b) := by
 obtain ⟨id, x, y, vx, vy, an, sp, de, k, r, ao, n, c, f⟩ := b
 obtain ⟨ob, oj, cb, cj, hH, hL⟩ := hV
 obtain ⟨nB, hnB⟩ : ∃ m, B.length = m := ⟨_, rfl⟩
 obtain ⟨nJ, hnJ⟩ : ∃ m, J.length = m := ⟨_, rfl⟩
 obtain ⟨nC, hnC⟩ : ∃ m, C.length = m := ⟨_, rfl⟩
 rw [hnB, hnJ, hnC] at hH
 have lgw : gw < w.heap.size := hH.here
 simp only [] at hs ho
 obtain ⟨q, hq⟩ := a_bool (BodyP ⟨id, x, y, vx, vy, an, sp, de, k, r, ao, n, c, f⟩)
 have HQ := hid hq
 have HN := hid (And.intro hnB (And.intro hnJ hnC))
 have HL := hid hL
 have HI := hid hi
 have HXW := hid hXw
 have HS : Hid (∀ v, Made w.heap.size w v → Sl v ao n f) := fun v k hn => by
  obtain ⟨b, off, e, hp⟩ := hs hn
  exact ⟨b, off, e, hp.kept k⟩
 have HO := hid ho
 have HRB := hid (fun v (k' : Made w.heap.size w v) => rbody_c id x y vx vy an sp de k r ao n c f q v (HS.out v k') hi hq)
 obtain ⟨W, eW⟩ : ∃ W, W = w.alloc (.cells #[.int .i64 id, .int .i64 x, .int .i64 y, .int .i64 vx, .int .i64 vy, .int .i64 an, .int .i64 sp, .int .i64 de, .int .i64 k, .int .i64 r, .slice ao n c] 43) := ⟨_, rfl⟩
 have KW : Hid (Made w.heap.size w W) := by unfold Hid; rw [eW]; exact (Made.rfl_ _ _).cells (Nat.le_refl _) _ _
 have HB : Hid (Has W w.heap.size 43 #[.int .i64 id, .int .i64 x, .int .i64 y, .int .i64 vx, .int .i64 vy, .int .i64 an, .int .i64 sp, .int .i64 de, .int .i64 k, .int .i64 r, .slice ao n c]) := by unfold Hid; rw [eW]; exact has_new _ _ _
 have HH : Hid (Has W gw 31 #[.int .i64 tk, .int .i64 nb, .int .i64 nj, .int .i64 gx, .int .i64 gy, .slice ob nB cb, .slice oj nJ cj, .slice oc nC cc]) := hH.stays KW.out lgw
 obtain ⟨g1, eg1⟩ : ∃ g, w.heap.size = g := ⟨_, rfl⟩
 rw [eg1] at HB
 have hg1 : gw < g1 := by omega
 have hne : ¬ gw = g1 := by omega
 have hne' : ¬ g1 = gw := by omega
 clear hq hs ho hi hL hH hXw hnB hnJ hnC lgw
 have a0 := HB.out.at_ 0
 have a1 := HB.out.at_ 1
 have a2 := HB.out.at_ 2
 have a3 := HB.out.at_ 3
 have a4 := HB.out.at_ 4
 have a5 := HB.out.at_ 5
 have a6 := HB.out.at_ 6
 have a7 := HB.out.at_ 7
 have a8 := HB.out.at_ 8
 have a9 := HB.out.at_ 9
 have a10 := HB.out.at_ 10
 simp at a0 a1 a2 a3 a4 a5 a6 a7 a8 a9 a10
 have b0 := HH.out.at_ 0
 have b1 := HH.out.at_ 1
 have b2 := HH.out.at_ 2
 have b3 := HH.out.at_ 3
 have b4 := HH.out.at_ 4
 have b5 := HH.out.at_ 5
 have b6 := HH.out.at_ 6
 have b7 := HH.out.at_ 7
 simp at b0 b1 b2 b3 b4 b5 b6 b7
 have l0 : gw < W.heap.size := HH.out.here
 have l1 : g1 < W.heap.size := HB.out.here
 go_enter Tryz.func18, Tryz.ntmps18
 go_upto_region 1 with fail
 rw [← eW]
 clear eW
 try rw [eg1]
 go_wp2_with fail
 refine (HRB.out _ KW.out).mono ?_
 rintro e w1 ⟨rfl, k1⟩
 have K1 := hid (KW.out.then_ (k1.low KW.out.1.size))
 have HB1 := hid (HB.out.stays k1 HB.out.here)
 have HH1 := hid (HH.out.stays k1 HH.out.here)
 clear k1 a0 a1 a2 a3 a4 a5 a6 a7 a8 a9 a10 b0 b1 b2 b3 b4 b5 b6 b7 l0 l1 HB HH
 have a0 := HB1.out.at_ 0
 have a1 := HB1.out.at_ 1
 have a2 := HB1.out.at_ 2
 have a3 := HB1.out.at_ 3
 have a4 := HB1.out.at_ 4
 have a5 := HB1.out.at_ 5
 have a6 := HB1.out.at_ 6
 have a7 := HB1.out.at_ 7
 have a8 := HB1.out.at_ 8
 have a9 := HB1.out.at_ 9
 have a10 := HB1.out.at_ 10
 simp at a0 a1 a2 a3 a4 a5 a6 a7 a8 a9 a10
 have b0 := HH1.out.at_ 0
 have b1 := HH1.out.at_ 1
 have b2 := HH1.out.at_ 2
 have b3 := HH1.out.at_ 3
 have b4 := HH1.out.at_ 4
 have b5 := HH1.out.at_ 5
 have b6 := HH1.out.at_ 6
 have b7 := HH1.out.at_ 7
 simp at b0 b1 b2 b3 b4 b5 b6 b7
 have l0 : gw < w1.heap.size := HH1.out.here
 have l1 : g1 < w1.heap.size := HB1.out.here
 cases q with
 | false =>
  go_wp2_with fail
  exact bodyPost_ret (v := .tuple #[.int .i64 0, .int .i64 2]) (by simp [results, Tryz.results18, go_sem]) rfl (.inl ⟨fun h => by have := HQ.out.2 h; simp at this, rfl, K1.out⟩)
 | true =>
  have HBP : Hid (BodyP ⟨id, x, y, vx, vy, an, sp, de, k, r, ao, n, c, f⟩) := HQ.out.1 (by simp)
  by_cases hA : 1024 ≤ nB
  ·go_wp2_with fail
   exact bodyPost_ret (v := .tuple #[.int .i64 0, .int .i64 3]) (by simp [results, Tryz.results18, go_sem]) rfl (.inr (.inl ⟨HBP.out, .inl (by rw [HN.out.1]; exact hA), rfl, K1.out⟩))
  ·by_cases hB : 4611686018427387904 ≤ nb
   ·go_wp2_with fail
    exact bodyPost_ret (v := .tuple #[.int .i64 0, .int .i64 3]) (by simp [results, Tryz.results18, go_sem]) rfl (.inr (.inl ⟨HBP.out, .inr hB, rfl, K1.out⟩))
   ·obtain ⟨ao', ac, hcw, hcopy⟩ := copyV_c k r ao n c f (right_n HBP.out.shape) HO.out
    have HCW := hid hcw
    have HCP := hid (fun v (k' : Made w.heap.size w v) => hcopy v (HS.out v k'))
    clear hcw hcopy
    go_wp2_with fail
    refine MK.reg_mk (alS ao' n f) 8 [0, 1, 2, 3, 4, 5, 7, 6] [0, 1, 2, 3, 4, 5, 7] [6] [] (fun _ => []) (val := valS k r ao' n ac) (by kernel_rfl) (by kernel_rfl) ?hpu ?_
    case hpu => intro p hp; simp at hp
    refine MK.can_class (rest := [6]) [0, 1, 2, 3, 4, 5, 7] [] 53 (alS_lasts _ _ _) (MK.any_class _) (by kernel_rfl) rfl (by kernel_rfl) (by kernel_rfl) ?_
    apply Exists.intro
    refine ⟨?q1, ?q2⟩
    case q1 =>
     intro Ty hT fw hf _
     have z1 := Class.reads hf b1
     have z8 := Class.reads hf a8
     have z9 := Class.reads hf a9
     have z10 := Class.reads hf a10
     change wpQuiet _ _ _ _ [_, _, _, _, _, _, _] _
     repeat (go_big_quiet_step (fail))
     exact wpQuiet_nil rfl
    refine MK.can_mk 6 32 _ rfl rfl rfl rfl ?m1 fun g6 e6 => ?m2
    case m1 =>
     intro G' u _ hu
     rw [show (execOp _ _).run Tryz.prog u = .ok (.enter 40 #[shapeV k r (.slice ao n c)]) u by kernel_rfl]
     show Calls _ _ _ _ _
     refine (HCP.out u (K1.out.then_ (hu.1.low K1.out.1.size))).mono ?_
     rintro e v ⟨g, e', rfl, h1, h2, h3, h4⟩
     exact ⟨g, e', rfl, hu.next (alS_lasts _ _ _) h4 h1 h2 h3⟩
    rw [show valS k r ao' n ac 6 g6 e6 = shapeV k r (.slice (ao' g6) n (ac e6)) from rfl]
    simp only [Act.put, List.setIfInBounds_toArray, List.set_cons_succ, List.set_cons_zero]
    intro w3 hu
    obtain ⟨hg6, hg6', h3⟩ := hu.2.1 6 (g6, e6) (by unfold MK.upd; simp)
    have K3 := hid (K1.out.then_ (hu.1.low K1.out.1.size))
    have HB3 := hid (HB1.out.stays hu.1 HB1.out.here)
    have HH3 := hid (HH1.out.stays hu.1 HH1.out.here)
    have HC3 : Hid (CornersAt w3 (ao' g6) g6 n f) := h3
    have hg6w : Hid (g1 < g6) := Nat.lt_of_lt_of_le l1 hg6
    have hgw6 : Hid (w.heap.size ≤ g6) := Nat.le_trans K1.out.1.size hg6
    clear hu h3 hg6 hg6' a0 a1 a2 a3 a4 a5 a6 a7 a8 a9 a10 b0 b1 b2 b3 b4 b5 b6 b7 l0 l1 HCP
    simp only [List.drop_succ_cons, List.drop_zero]
    have a0 := HB3.out.at_ 0
    have a1 := HB3.out.at_ 1
    have a2 := HB3.out.at_ 2
    have a3 := HB3.out.at_ 3
    have a4 := HB3.out.at_ 4
    have a5 := HB3.out.at_ 5
    have a6 := HB3.out.at_ 6
    have a7 := HB3.out.at_ 7
    have a8 := HB3.out.at_ 8
    have a9 := HB3.out.at_ 9
    have a10 := HB3.out.at_ 10
    simp at a0 a1 a2 a3 a4 a5 a6 a7 a8 a9 a10
    have l1 : g1 < w3.heap.size := HB3.out.here
    have fa : ∀ i, w3.frozen? ⟨g1, i, none⟩ = false := HB3.out.free
    go_wp2_with fail
    refine NoPanic.normal ?_
    obtain ⟨W4, eW4⟩ : ∃ V, V = (((w3.setCell ⟨g1, 0, none⟩ (.int .i64 nb)).setCell ⟨g1, 8, none⟩ (.int .i64 k)).setCell ⟨g1, 9, none⟩ (.int .i64 r)).setCell ⟨g1, 10, none⟩ (.slice (ao' g6) n (ac e6)) := ⟨_, rfl⟩
    have HB4 : Hid (Has W4 g1 43 #[.int .i64 nb, .int .i64 x, .int .i64 y, .int .i64 vx, .int .i64 vy, .int .i64 an, .int .i64 sp, .int .i64 de, .int .i64 k, .int .i64 r, .slice (ao' g6) n (ac e6)]) := by unfold Hid; rw [eW4]; exact (((HB3.out.put 0 _).put 8 _).put 9 _).put 10 _
    have HH4 : Hid (Has W4 gw 31 #[.int .i64 tk, .int .i64 nb, .int .i64 nj, .int .i64 gx, .int .i64 gy, .slice ob nB cb, .slice oj nJ cj, .slice oc nC cc]) := by unfold Hid; rw [eW4]; exact (((HH3.out.other _ hne _).other _ hne _).other _ hne _).other _ hne _
    have hw1 : w.heap.size ≤ g1 := Nat.le_of_eq eg1
    have K4 : Hid (Made w.heap.size w W4) := by unfold Hid; rw [eW4]; exact (((K3.out.put hw1 _).put hw1 _).put hw1 _).put hw1 _
    have HC4 : Hid (CornersAt W4 (ao' g6) g6 n f) := by
     have hb : But (fun b => b = g1) w3 W4 := by rw [eW4]; exact ((((But.rfl_ (fun b => b = g1) _).put (p := ⟨g1, 0, none⟩) (.inl rfl) _).put (p := ⟨g1, 8, none⟩) (.inl rfl) _).put (p := ⟨g1, 9, none⟩) (.inl rfl) _).put (p := ⟨g1, 10, none⟩) (.inl rfl) _
     have hx : ¬ g6 = g1 := by have := hg6w.out; omega
     refine ⟨fun hn => ?_, fun hn => ?_⟩
     ·refine (HC3.out.1).but hb (fun b off s e => ?_) hn
      rcases HCW.out with h | h
      ·rw [h.1] at e; cases e
      ·rw [h.1] at e; cases e; exact hx
     ·obtain ⟨A, h1, h2⟩ := HC3.out.2 hn
      exact ⟨A, h1.but hb hx, h2⟩
    rw [← eW4]
    clear eW4 a0 a1 a2 a3 a4 a5 a6 a7 a8 a9 a10 l1 fa HB3 HH3 HC3
    have a0 := HB4.out.at_ 0
    have a1 := HB4.out.at_ 1
    have a2 := HB4.out.at_ 2
    have a3 := HB4.out.at_ 3
    have a4 := HB4.out.at_ 4
    have a5 := HB4.out.at_ 5
    have a6 := HB4.out.at_ 6
    have a7 := HB4.out.at_ 7
    have a8 := HB4.out.at_ 8
    have a9 := HB4.out.at_ 9
    have a10 := HB4.out.at_ 10
    simp at a0 a1 a2 a3 a4 a5 a6 a7 a8 a9 a10
    have b0 := HH4.out.at_ 0
    have b1 := HH4.out.at_ 1
    have b2 := HH4.out.at_ 2
    have b3 := HH4.out.at_ 3
    have b4 := HH4.out.at_ 4
    have b5 := HH4.out.at_ 5
    have b6 := HH4.out.at_ 6
    have b7 := HH4.out.at_ 7
    simp at b0 b1 b2 b3 b4 b5 b6 b7
    have l0 : gw < W4.heap.size := HH4.out.here
    have l1 : g1 < W4.heap.size := HB4.out.here
    have HW := hid (fun v (k' : Made W4.heap.size W4 v) => withB_c (⟨nb, x, y, vx, vy, an, sp, de, k, r, ao' g6, n, ac e6, f⟩ : Bd) (l := B) (ao := ob) (n := nB) (c := cb) (w := v) HN.out.1 (by omega) (((HL.out.at_.lB).below K4.out.1).below k'.1) (by have := HL.out.okB; rw [HN.out.1] at this; exact this))
    go_wp2_with fail
    refine MK.reg_mk (alW encB 11 43 (nB + 1) (B ++ [(⟨nb, x, y, vx, vy, an, sp, de, k, r, ao' g6, n, ac e6, f⟩ : Bd)])) 7 [0, 1, 2, 3, 4, 5, 6] [0, 1, 2, 3, 4, 5] [6] [] (fun _ => []) (val := valW (nB + 1)) (by kernel_rfl) (by kernel_rfl) ?hpu2 ?_
    case hpu2 => intro p hp; simp at hp
    refine MK.can_class (rest := [6]) [0, 1, 2, 3, 4, 5] [] 53 (alW_lasts _ _ _ _ _) (MK.any_class _) (by kernel_rfl) rfl (by kernel_rfl) (by kernel_rfl) ?_
    apply Exists.intro
    refine ⟨?q3, ?q4⟩
    case q3 =>
     intro Ty hT fw hf _
     have z5 := Class.reads hf b5
     have y0 := Class.reads hf a0
     have y1 := Class.reads hf a1
     have y2 := Class.reads hf a2
     have y3 := Class.reads hf a3
     have y4 := Class.reads hf a4
     have y5 := Class.reads hf a5
     have y6 := Class.reads hf a6
     have y7 := Class.reads hf a7
     have y8 := Class.reads hf a8
     have y9 := Class.reads hf a9
     have y10 := Class.reads hf a10
     change wpQuiet _ _ _ _ [_, _, _, _, _, _] _
     repeat (go_big_quiet_step (fail))
     exact wpQuiet_nil rfl
    refine MK.can_mk 6 41 _ rfl rfl rfl rfl ?m3 fun g7 e7 => ?m4
    case m3 =>
     intro G' u _ hu
     rw [show (execOp _ _).run Tryz.prog u = .ok (.enter 41 #[.slice ob nB cb, bodyV nb x y vx vy an sp de k r (.slice (ao' g6) n (ac e6))]) u by kernel_rfl]
     show Calls _ _ _ _ _
     refine (HW.out u hu.1).mono ?_
     rintro e v ⟨ao2, c2, rfl, hnew, h4⟩
     obtain ⟨g, rfl, hrow⟩ := hnew.row (by omega)
     exact ⟨g, c2, rfl, hu.next (alW_lasts _ _ _ _ _) h4 (hnew.fresh g 0 _ rfl) hrow.here ⟨hrow, hnew.nc, hnew.cm⟩⟩
    rw [show valW (nB + 1) 6 g7 e7 = .slice (some ⟨g7, 0, none⟩) (nB + 1) e7 from rfl]
    simp only [Act.put, List.setIfInBounds_toArray, List.set_cons_succ, List.set_cons_zero]
    intro w5 hu
    obtain ⟨hg7, hg7', h3⟩ := hu.2.1 6 (g7, e7) (by unfold MK.upd; simp)
    have K5 := hid (K4.out.then_ (hu.1.low K4.out.1.size))
    have HB5 := hid (HB4.out.stays hu.1 HB4.out.here)
    have HH5 := hid (HH4.out.stays hu.1 HH4.out.here)
    have HC5 := hid (HC4.out.kept hu.1)
    have HR5 := hid h3
    have hgw7 : Hid (w.heap.size ≤ g7) := Nat.le_trans K4.out.1.size hg7
    clear hu h3 hg7 hg7' a0 a1 a2 a3 a4 a5 a6 a7 a8 a9 a10 b0 b1 b2 b3 b4 b5 b6 b7 l0 l1 HW HB4 HH4 HC4
    simp only [List.drop_succ_cons, List.drop_zero]
    have a0 := HB5.out.at_ 0
    have a1 := HB5.out.at_ 1
    have a2 := HB5.out.at_ 2
    have a3 := HB5.out.at_ 3
    have a4 := HB5.out.at_ 4
    have a5 := HB5.out.at_ 5
    have a6 := HB5.out.at_ 6
    have a7 := HB5.out.at_ 7
    have a8 := HB5.out.at_ 8
    have a9 := HB5.out.at_ 9
    have a10 := HB5.out.at_ 10
    simp at a0 a1 a2 a3 a4 a5 a6 a7 a8 a9 a10
    have b0 := HH5.out.at_ 0
    have b1 := HH5.out.at_ 1
    have b2 := HH5.out.at_ 2
    have b3 := HH5.out.at_ 3
    have b4 := HH5.out.at_ 4
    have b5 := HH5.out.at_ 5
    have b6 := HH5.out.at_ 6
    have b7 := HH5.out.at_ 7
    simp at b0 b1 b2 b3 b4 b5 b6 b7
    have l0 : gw < w5.heap.size := HH5.out.here
    have l1 : g1 < w5.heap.size := HB5.out.here
    have fw : ∀ i, w5.frozen? ⟨gw, i, none⟩ = false := HH5.out.free
    go_wp2_with fail
    refine NoPanic.normal ?_
    obtain ⟨nb1, enb⟩ : ∃ z, nb + 1 = z := ⟨_, rfl⟩
    go_wp2_with fail
    obtain ⟨W6, eW6⟩ : ∃ V, V = (w5.setCell ⟨gw, 5, none⟩ (.slice (some ⟨g7, 0, none⟩) (nB + 1) e7)).setCell ⟨gw, 1, none⟩ (.int .i64 nb1) := ⟨_, rfl⟩
    have hH6 : Has W6 gw 31 #[.int .i64 tk, .int .i64 nb1, .int .i64 nj, .int .i64 gx, .int .i64 gy, .slice (some ⟨g7, 0, none⟩) (nB + 1) e7, .slice oj nJ cj, .slice oc nC cc] := by rw [eW6]; exact (HH5.out.put 5 _).put 1 _
    have k6 : But (fun b => b = gw) w5 W6 := by rw [eW6]; exact ((But.rfl_ (fun b => b = gw) _).put (p := ⟨gw, 5, none⟩) (.inl rfl) _).put (p := ⟨gw, 1, none⟩) (.inl rfl) _
    have hB6 := HB5.out.but k6 (by exact hne')
    try rw [← eW6]
    have q0 := hB6.at_ 0
    simp at q0
    refine bodyPost_ret (v := .tuple #[.int .i64 nb, .int .i64 0]) (by simp [results, Tryz.results18, go_sem]) rfl (.inr (.inr ⟨HBP.out, by rw [HN.out.1]; omega, by omega, rfl, (Made.but K5.out).then_ k6, ao' g6, ac e6, some ⟨g7, 0, none⟩, oj, e7, cj, ?_, ?_⟩))
    ·rw [List.length_append, HN.out.1, HN.out.2.1, HN.out.2.2, enb]
     exact hH6
    ·have hY : ∀ b, b = gw → X b := fun b hb => hb ▸ hXg
     have hL6 := (HL.out.kept K5.out).but k6 hY
     have nX : ∀ g, w.heap.size ≤ g → ¬ X g := fun g hg hx => by have := HXW.out g hx; omega
     have hgw7' := hgw7.out
     have hgw6' := hgw6.out
     have h7 : ¬ g7 = gw := by omega
     have h6 : ¬ g6 = gw := by omega
     have hr6 := HR5.out.1.but k6 h7
     have hc6 : Sl W6 (ao' g6) n f := fun hn => (HC5.out.1).but k6 (fun b off s e => by
      rcases HCW.out with h | h
      ·rw [h.1] at e; cases e
      ·rw [h.1] at e; cases e; exact h6) hn
     refine ⟨⟨hr6.lsT, hL6.at_.lJ, hL6.at_.lC, fun b hb => ?_, hL6.at_.iJ, hL6.at_.iC⟩, ?_, hL6.okJ, hL6.okC, fun _ b off s e => by cases e; exact nX g7 hgw7', hL6.offJ, hL6.offC, fun b hb hn => ?_, fun b hb => ?_⟩
     ·rcases List.mem_append.1 hb with hb | hb
      ·exact hL6.at_.sB b hb
      ·rw [List.mem_singleton.1 hb]
       have := HI.out
       exact ⟨hc6, ⟨inb, this.x, this.y, this.vx, this.vy, this.an, this.sp, this.de, this.k, this.r, this.f⟩⟩
     ·rw [List.length_append, HN.out.1]
      exact ⟨HR5.out.2.1, HR5.out.2.2, .inr ⟨_, _, rfl⟩⟩
     ·rcases List.mem_append.1 hb with hb | hb
      ·exact hL6.offP b hb hn
      ·rw [List.mem_singleton.1 hb]
       intro b' off s e
       have e : ao' g6 = some ⟨b', off, s⟩ := e
       rcases HCW.out with h | h
       ·rw [h.1] at e; cases e
       ·rw [h.1] at e; cases e; exact nX g6 hgw6'
     ·rcases List.mem_append.1 hb with hb | hb
      ·exact hL6.okP b hb
      ·rw [List.mem_singleton.1 hb]
       rcases HCW.out with h | h
       ·exact .inl ⟨h.1 g6, h.2.1, h.2.2 e6⟩
       ·exact .inr ⟨_, h.1 g6⟩
theorem addBody_c {X : Nat → Prop} {w : World} {gw : Nat} {tk nb nj gx gy : Int} {B : List Bd} {J : List Jt} {C : List Ct} (b : Bd) (hV : WVar X w gw tk nb nj gx gy B J C) (hXg : X gw) (hXw : ∀ b, X b → b < w.heap.size) (hs : Sl w b.ao b.n b.f) (hi : BdI b) (ho : (b.ao = none ∧ b.n = 0 ∧ b.c = 0) ∨ ∃ a, b.ao = some a) (inb : I64 nb) (hnb : 1 ≤ nb) :
  Calls Tryz.prog 18 #[.pointer (some ⟨gw, 0, none⟩), bdV b] w (AddedB X w gw tk nb nj gx gy B J C b) := by
 obtain ⟨oc, cc, hO⟩ := hV.down
 refine (addBody_o b hO hXg hXw hs hi ho inb hnb).mono ?_
 rintro e v (h | h | ⟨h1, h2, h3, h4, h5, ao, c, hv⟩)
 ·exact .inl h
 ·exact .inr (.inl h)
 ·exact .inr (.inr ⟨h1, h2, h3, h4, h5, ao, c, hv.up⟩)
end Go.Proofs.YtjhcejmfiekjgaaGreat.Fx