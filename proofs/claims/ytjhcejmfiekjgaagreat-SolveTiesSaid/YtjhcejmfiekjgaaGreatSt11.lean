/- WlC WsA WsB WlM Mid -/
import Derived.Test.YtjhcejmfiekjgaaGreatSt1
import Derived.Test.YtjhcejmfiekjgaaGreatSt6
import Derived.Test.YtjhcejmfiekjgaaGreatSt10
import Derived.BigQuiet
import Derived.Deep.LoopGhost
import Derived.LoopN
import Derived.WalkMore
import Derived.Deep.DeepCutAuto
import Derived.Deep.CutBlock
set_option maxRecDepth 100000
set_option maxHeartbeats 64000000
/- world.Copy. -/
namespace Go.Proofs.YtjhcejmfiekjgaaGreat.Fx
open Go.ChangeShapes Go.WideShapes Go.ChangeAt Go.RowKit
set_option linter.unusedVariables false
theorem own_but {X : Nat → Prop} {w v : World} {base base' : Nat} {t : TypeId} {size n : Nat} {x : Value} {xs : List Value} (h : w.ownsRow base t size x n xs) (k : But X w v) (hx : ∀ g, x.ownBlock = some g → ¬ X g) (hb : base' ≤ base) : v.ownsRow base' t size x n xs := by
 obtain ⟨h1, h2⟩ := h
 refine ⟨h1, h2.imp id ?_⟩
 rintro ⟨g, cap, cur, e, hg, hh, r⟩
 have hlt : g < w.heap.size := Has.here (t := t) (cs := cur) hh
 exact ⟨g, cap, cur, e, Nat.le_trans hb hg, (k.block g hlt (hx g (by rw [e]; rfl))).trans hh, r⟩
theorem cloneJo_c {l : List Jt} {ao : Option Addr} {n c : Nat} {w : World} (hn : l.length = n) (hmx : n ≤ 1073741824) (hl : LsT encJ 8 w ao l) (ho : SlOk ao n c) :
  Calls Tryz.prog 120 #[.slice ao n c] w fun e v => ∃ ao' c', e = .returned (.slice ao' n c') ∧ NewL encJ 8 36 w v ao' n c' l ∧ v.ownsRow w.heap.size 36 8 (.slice ao' n c') n (flatE encJ l) ∧ Made w.heap.size w v := by
 obtain ⟨i0, hi, hz0, hz1, hz2⟩ := info_parts infoJ
 have iHi := hid hi; have iH0 := hid hz0; have iH1 := hid hz1; have iH2 := hid hz2
 have HN := hid hn
 clear hi hz0 hz1 hz2
 rcases ho.2.2 with ⟨rfl, rfl, rfl⟩ | ⟨b, off, rfl⟩
 ·have q := fun W : World => Lib.run_eql_slice_nil (P := Tryz.prog) W 28 36 none 0 0 0 0 Tryz.underlying28
  clear hn hl
  go_enter Tryz.func120, Tryz.ntmps120
  go_wp2_with fail
  go_ret
  exact ⟨none, 0, rfl, ⟨HN.out, fun h => absurd h (by rw [HN.out]; omega), by omega, by unfold maxLen; omega, .inl ⟨rfl, rfl, rfl⟩, fun b off s e => (by cases e), fun h => absurd h (by omega)⟩, by rw [List.length_eq_zero_iff.1 HN.out]; exact World.ownsRow_nil _ _ _ _, Made.rfl_ _ _⟩
 ·have q := fun W : World => Lib.run_eql_slice_nil (P := Tryz.prog) W 28 36 (some ⟨b, off, none⟩) n c 0 0 Tryz.underlying28
  have HA : Hid (Made w.heap.size w (w.alloc (.cells #[] 36))) := (Made.rfl_ _ _).cells (Nat.le_refl _) _ _
  have HO : Hid ((w.alloc (.cells #[] 36)).ownsRow w.heap.size 36 8 (.slice (some ⟨w.heap.size, 0, none⟩) 0 0) 0 []) := World.ownsRow_lit w #[] 0 (Nat.le_refl _) (by unfold maxLen; omega) rfl
  rcases Nat.eq_zero_or_pos n with h0 | h0
  ·subst h0
   clear hn hl
   go_enter Tryz.func120, Tryz.ntmps120
   go_wp2_with fail
   go_ret
   exact ⟨some ⟨w.heap.size, 0, none⟩, 0, rfl, ⟨HN.out, fun h => absurd h (by rw [HN.out]; omega), by omega, by unfold maxLen; omega, .inr ⟨_, _, rfl⟩, fun b off s e => (by cases e; exact Nat.le_refl _), fun h => absurd h (by omega)⟩, by rw [List.length_eq_zero_iff.1 HN.out]; exact HO.out, HA.out⟩
  ·obtain ⟨b', off', e, hbl, hLB⟩ := hl (by omega)
   cases e
   have HLB := hid hLB
   clear hn hl hLB
   go_enter Tryz.func120, Tryz.ntmps120
   go_wp2_with (at_builtin; refine wpList_append_made _ rfl (.tmp 5) (.tmp 6) 28 rfl w.heap.size 36 i0 (.agg #[.int .i64 0, .int .i64 0, .int .i64 0, .int .i64 0, .int .i64 0, .int .i64 0, .int .i64 0, .int .i64 0]) 8 64 Tryz.underlying28 iHi.out iH0.out iH1.out iH2.out rfl (by decide) (.slice (some ⟨w.heap.size, 0, none⟩) 0 0) 0 [] rfl HO.out ⟨b, off, none⟩ n c (flatE encJ l) rfl (by rw [flatE_len encJ_len, HN.out]) (LsB.newsL encJ_len (HLB.out.below HA.out.1 hbl)) (flatE_one encJ_one l) (by unfold maxLen; omega) (by omega) (by simp) h0 ?_)
   intro v' w1 hown hg hf
   have hown : w1.ownsRow w.heap.size 36 8 v' n (flatE encJ l) := by simpa using hown
   obtain ⟨g, c', rfl, hbg, hc, hm, hrow⟩ := RowL.of_own encJ_len HN.out hown h0
   have HOw := hid hown
   have M1 : Hid (Made w.heap.size w w1) := HA.out.app hg hf (by simp) (fun k hk => by simp [Value.ownBlock] at hk; omega)
   have HR := hid hrow
   clear hown hg hf hrow
   go_wp2_with fail
   go_ret
   exact ⟨some ⟨g, 0, none⟩, c', rfl, ⟨HN.out, HR.out.lsT, hc, hm, .inr ⟨_, _, rfl⟩, fun b off s e => (by cases e; exact hbg), fun _ => ⟨g, rfl, HR.out⟩⟩, HOw.out, M1.out⟩
section
variable {α : Type} {enc : α → List Value} {k : Nat} {w : World} {g n : Nat} {t : TypeId} {l : List α}
theorem RowL.part (hk : ∀ x, (enc x).length = k) (h : RowL enc k w g t n l) {i : Nat} {x x' : α} (hx : l[i]? = some x) (s : Nat) (vs : List Value) (hs : s + vs.length ≤ k)
  (hp : ∀ b v, (enc x')[b]? = some v → if s ≤ b ∧ b < s + vs.length then vs[b - s]? = some v else (enc x)[b]? = some v) : RowL enc k (w.setCells g (i * k + s) vs) g t n (l.set i x') := by
 obtain ⟨h0, A, hA, hz, h⟩ := h
 have hi : i < n := by rw [← h0]; exact (List.getElem?_eq_some_iff.1 hx).1
 obtain ⟨A', h1, h2, h3, h4⟩ := Has.setCells vs (i * k + s) hA
 have him := Nat.mul_le_mul_right k (show i + 1 ≤ n from hi)
 rw [Nat.add_mul, Nat.one_mul] at him
 refine ⟨by rw [List.length_set]; exact h0, A', h1, by rw [h2]; exact hz, fun a y hy b u hu => ?_⟩
 have hb : b < k := by rw [← hk y]; exact (List.getElem?_eq_some_iff.1 hu).1
 have han : a < n := by rw [← h0, ← List.length_set (i := i) (a := x')]; exact (List.getElem?_eq_some_iff.1 hy).1
 by_cases e : i = a
 ·subst e
  rw [List.getElem?_set_self (by rw [h0]; exact hi)] at hy
  cases hy
  have hq := hp b u hu
  by_cases hr : s ≤ b ∧ b < s + vs.length
  ·rw [if_pos hr] at hq
   have := h4 (b - s) u hq (by omega)
   rw [show i * k + s + (b - s) = i * k + b by omega] at this
   exact this
  ·rw [if_neg hr] at hq
   rw [h3 (i * k + b) (by omega)]
   exact h i x hx b u hq
 ·rw [List.getElem?_set_ne e] at hy
  rw [h3 (a * k + b) ?_]
  ·exact h a y hy b u hu
  ·rcases Nat.lt_or_gt_of_ne e with hh | hh
   ·have := Nat.mul_le_mul_right k (show i + 1 ≤ a from hh)
    rw [Nat.add_mul, Nat.one_mul] at this
    omega
   ·have := Nat.mul_le_mul_right k (show a + 1 ≤ i from hh)
    rw [Nat.add_mul, Nat.one_mul] at this
    omega
end
theorem ownBlock_at {ao : Option Addr} {n c g : Nat} (h : (Value.slice ao n c).ownBlock = some g) : ∃ x : Nat × Option Nat, ao = some ⟨g, x.1, x.2⟩ := by
 cases ao with
 | none => simp [Value.ownBlock] at h
 | some a => cases a; simp [Value.ownBlock] at h; subst h; exact ⟨(_, _), rfl⟩
def SameB (b b' : Bd) : Prop := b'.id = b.id ∧ b'.x = b.x ∧ b'.y = b.y ∧ b'.vx = b.vx ∧ b'.vy = b.vy ∧ b'.an = b.an ∧ b'.sp = b.sp ∧ b'.de = b.de ∧ b'.k = b.k ∧ b'.r = b.r ∧ b'.n = b.n ∧ b'.f = b.f
def Mine (X : Nat → Prop) (lo : Nat) (w : World) (b : Bd) : Prop := Sl w b.ao b.n b.f ∧ ((b.ao = none ∧ b.n = 0 ∧ b.c = 0) ∨ ∃ g, b.ao = some ⟨g, 0, none⟩ ∧ lo ≤ g ∧ ¬ X g ∧ g < w.heap.size ∧ (0 < b.n → Row w g 26 b.n b.f))
theorem Mine.but {X Y : Nat → Prop} {lo : Nat} {w v : World} {b : Bd} (h : Mine X lo w b) (k : But Y w v) (hY : ∀ b, Y b → X b) : Mine X lo v b := by
 obtain ⟨h1, h2⟩ := h
 rcases h2 with ⟨a, b', c⟩ | ⟨g, e, h3, h4, h5, h6⟩
 ·exact ⟨fun hn => absurd hn (by omega), .inl ⟨a, b', c⟩⟩
 ·have hg : ¬ Y g := fun hy => h4 (hY g hy)
  refine ⟨h1.but k (fun b off s e' => by rw [e] at e'; cases e'; exact hg), .inr ⟨g, e, h3, h4, Nat.lt_of_lt_of_le h5 k.size, fun hn => ?_⟩⟩
  obtain ⟨A, h7, h8⟩ := h6 hn
  exact ⟨A, h7.but k hg, h8⟩
theorem Mine.more {X Y : Nat → Prop} {lo : Nat} {w : World} {b : Bd} (h : Mine X lo w b) (hY : ∀ g, Y g → X g ∨ w.heap.size ≤ g) : Mine Y lo w b := by
 obtain ⟨h1, h2⟩ := h
 rcases h2 with h2 | ⟨g, e, h3, h4, h5, h6⟩
 ·exact ⟨h1, .inl h2⟩
 ·exact ⟨h1, .inr ⟨g, e, h3, fun hy => (hY g hy).elim h4 (fun hh => absurd h5 (by omega)), h5, h6⟩⟩
theorem MadeMine {X : Nat → Prop} {lo : Nat} {w v : World} {b : Bd} (h : Mine X lo w b) (k : Made w.heap.size w v) : Mine X lo v b := h.but (Y := Nil0) (Made.but k) (fun _ h => h.elim)
theorem wcopy_x (tk nb nj gx gy : Int) (ob oj oc : Option Addr) (nB cb nJ cj nC cc : Nat) {X : Nat → Prop} {B : List Bd} {J : List Jt} {C : List Ct} {w : World} (hL : WLs X w ob cb B oj cj J oc cc C) (hnB : B.length = nB) (hnJ : J.length = nJ) (hnC : C.length = nC) (hmB : nB ≤ 1073741824) (hmJ : nJ ≤ 1073741824) (hmC : nC ≤ 1073741824) (h8 : ∀ b ∈ B, b.n ≤ 8) :
  Calls Tryz.prog 83 #[wdV tk nb nj gx gy (.slice ob nB cb) (.slice oj nJ cj) (.slice oc nC cc)] w fun e v => ∃ B' ob' oj' oc' cb' cj' cc', e = .returned (wdV tk nb nj gx gy (.slice ob' nB cb') (.slice oj' nJ cj') (.slice oc' nC cc')) ∧ Made w.heap.size w v ∧
   B'.length = nB ∧ (∀ (i : Nat) b b', B[i]? = some b → B'[i]? = some b' → SameB b b') ∧ NewL encB 11 43 w v ob' nB cb' B' ∧ NewL encJ 8 36 w v oj' nJ cj' J ∧ NewL encC 5 118 w v oc' nC cc' C ∧ v.ownsRow w.heap.size 36 8 (.slice oj' nJ cj') nJ (flatE encJ J) ∧ (oc = none → oc' = none ∧ cc' = 0) ∧ ∀ b ∈ B', Mine (fun g => ob' = some ⟨g, 0, none⟩ ∨ oj' = some ⟨g, 0, none⟩ ∨ oc' = some ⟨g, 0, none⟩) w.heap.size v b := by
 have HN := hid (And.intro hnB (And.intro hnJ hnC))
 have HL := hid hL
 have H8 := hid h8
 have HCB := hid (fun v (k : Made w.heap.size w v) => cloneB_c (c := cb) (w := v) hnB hmB (hL.at_.lB.below k.1) (by have := hL.okB; rw [hnB] at this; exact this))
 have HCJ := hid (fun v (k : Made w.heap.size w v) => cloneJo_c (c := cj) (w := v) hnJ hmJ (hL.at_.lJ.below k.1) (by have := hL.okJ; rw [hnJ] at this; exact this))
 have HCC := hid (fun v (k : Made w.heap.size w v) => cloneC_x (c := cc) (w := v) hnC hmC (hL.at_.lC.below k.1) (by have := hL.okC; rw [hnC] at this; exact this))
 obtain ⟨W, eW⟩ : ∃ W, W = (w.alloc (.cells #[.int .i64 tk, .int .i64 nb, .int .i64 nj, .int .i64 gx, .int .i64 gy, .slice ob nB cb, .slice oj nJ cj, .slice oc nC cc] 31)).alloc (.cells #[.int .i64 0, .int .i64 0, .int .i64 0, .int .i64 0, .int .i64 0, .slice none 0 0, .slice none 0 0, .slice none 0 0] 31) := ⟨_, rfl⟩
 have KW : Hid (Made w.heap.size w W) := by unfold Hid; rw [eW]; exact ((Made.rfl_ _ _).cells (Nat.le_refl _) _ _).cells (by simp) _ _
 have HB : Hid (Has W w.heap.size 31 #[.int .i64 tk, .int .i64 nb, .int .i64 nj, .int .i64 gx, .int .i64 gy, .slice ob nB cb, .slice oj nJ cj, .slice oc nC cc]) := by unfold Hid; rw [eW]; exact (has_new _ _ _).more _
 have HR : Hid (Has W (w.heap.size + 1) 31 #[.int .i64 0, .int .i64 0, .int .i64 0, .int .i64 0, .int .i64 0, .slice none 0 0, .slice none 0 0, .slice none 0 0]) := by unfold Hid; rw [eW]; exact has_nxt' _ _ _ _
 obtain ⟨g0, eg0⟩ : ∃ g, w.heap.size = g := ⟨_, rfl⟩
 obtain ⟨g1, eg1⟩ : ∃ g, g0 + 1 = g := ⟨_, rfl⟩
 have hw0 : w.heap.size ≤ g0 := Nat.le_of_eq eg0
 have hw1 : w.heap.size ≤ g1 := by omega
 have hne : ¬ g1 = g0 := by omega
 have hne' : ¬ g0 = g1 := by omega
 rw [eg0] at HB
 rw [eg0, eg1] at HR
 clear hL hnB hnJ hnC h8
 have b0 := HB.out.at_ 0
 have b1 := HB.out.at_ 1
 have b2 := HB.out.at_ 2
 have b3 := HB.out.at_ 3
 have b4 := HB.out.at_ 4
 have b5 := HB.out.at_ 5
 have b6 := HB.out.at_ 6
 have b7 := HB.out.at_ 7
 simp at b0 b1 b2 b3 b4 b5 b6 b7
 have l0 : g0 < W.heap.size := HB.out.here
 go_enter Tryz.func83, Tryz.ntmps83
 go_upto_region 1 with fail
 rw [← eW]
 clear eW
 try rw [eg0]
 try rw [eg1]
 go_wp2_with fail
 refine (HCB.out _ KW.out).mono ?_
 rintro e w1 ⟨ob', cb', rfl, hnw, k1⟩
 have K1 := hid (KW.out.then_ (k1.low KW.out.1.size))
 have HB1 := hid (HB.out.stays k1 HB.out.here)
 have HR1 := hid (HR.out.stays k1 HR.out.here)
 have HNB := hid hnw
 have hg1W : Hid (g1 < W.heap.size) := HR.out.here
 clear k1 hnw l0 b0 b1 b2 b3 b4 b5 b6 b7
 have b0 := HB1.out.at_ 0
 have b1 := HB1.out.at_ 1
 have b2 := HB1.out.at_ 2
 have b3 := HB1.out.at_ 3
 have b4 := HB1.out.at_ 4
 have b5 := HB1.out.at_ 5
 have b6 := HB1.out.at_ 6
 have b7 := HB1.out.at_ 7
 simp at b0 b1 b2 b3 b4 b5 b6 b7
 have l0 : g0 < w1.heap.size := HB1.out.here
 have f0 : ∀ i, w1.frozen? ⟨g0, i, none⟩ = false := HB1.out.free
 go_upto_region 2 with fail
 obtain ⟨W2, eW2⟩ : ∃ V, V = w1.setCell ⟨g0, 5, none⟩ (.slice ob' nB cb') := ⟨_, rfl⟩
 have k2 : But (fun b => b = g0) w1 W2 := by rw [eW2]; exact (But.rfl_ (fun b => b = g0) _).put (p := ⟨g0, 5, none⟩) (.inl rfl) _
 have K2 : Hid (Made w.heap.size w W2) := But.made_ K1.out k2 K1.out.1.size (fun b hb => by have hb : b = g0 := hb; omega)
 have HB2 : Hid (Has W2 g0 31 #[.int .i64 tk, .int .i64 nb, .int .i64 nj, .int .i64 gx, .int .i64 gy, .slice ob' nB cb', .slice oj nJ cj, .slice oc nC cc]) := by unfold Hid; rw [eW2]; exact HB1.out.put 5 _
 have HR2 := hid (HR1.out.but k2 hne)
 have hfrB : Hid (∀ b off s, ob' = some ⟨b, off, s⟩ → g1 < b) := fun b off s e => by have := HNB.out.fresh b off s e; have := hg1W.out; omega
 have HRow : Hid (0 < nB → ∃ g, ob' = some ⟨g, 0, none⟩ ∧ g1 < g ∧ RowL encB 11 W2 g 43 nB B) := fun h => by
  obtain ⟨g, e, hr⟩ := HNB.out.row h
  have hg := hfrB.out g 0 _ e
  exact ⟨g, e, hg, hr.but k2 (by show ¬ g = g0; omega)⟩
 rw [← eW2]
 clear eW2 k2 l0 f0 b0 b1 b2 b3 b4 b5 b6 b7 HB1 HR1
 have b0 := HB2.out.at_ 0
 have b1 := HB2.out.at_ 1
 have b2 := HB2.out.at_ 2
 have b3 := HB2.out.at_ 3
 have b4 := HB2.out.at_ 4
 have b5 := HB2.out.at_ 5
 have b6 := HB2.out.at_ 6
 have b7 := HB2.out.at_ 7
 simp at b0 b1 b2 b3 b4 b5 b6 b7
 have l0 : g0 < W2.heap.size := HB2.out.here
 go_wp2_with fail
 go_loopg [3, 11] nB (fun gg s3 s11 wx => ∃ (k : Nat) (L : List Bd), k + gg = nB ∧ s11 = .int .i64 (k : Nat) ∧ Hid (Made w.heap.size w wx ∧ Has wx g0 31 #[.int .i64 tk, .int .i64 nb, .int .i64 nj, .int .i64 gx, .int .i64 gy, .slice ob' nB cb', .slice oj nJ cj, .slice oc nC cc] ∧ Has wx g1 31 #[.int .i64 0, .int .i64 0, .int .i64 0, .int .i64 0, .int .i64 0, .slice none 0 0, .slice none 0 0, .slice none 0 0] ∧
  L.length = nB ∧ (0 < nB → ∃ g, ob' = some ⟨g, 0, none⟩ ∧ g1 < g ∧ RowL encB 11 wx g 43 nB L) ∧ (∀ i : Nat, k ≤ i → L[i]? = B[i]?) ∧ ∀ (i : Nat) b b', i < k → B[i]? = some b → L[i]? = some b' → SameB b b' ∧ Mine (fun g => g = g0 ∨ g = g1 ∨ ob' = some ⟨g, 0, none⟩) w.heap.size wx b'))
 case atStart => exact ⟨0, B, by omega, rfl, K2.out, HB2.out, HR2.out, HN.out.1, HRow.out, fun _ _ => rfl, fun i b b' hi => absurd hi (by omega)⟩
 case round =>
  obtain ⟨k, L, hk, rfl, HI⟩ := hrel
  obtain ⟨i1, i2, i3, i4, i5, i6, i7⟩ := HI.out
  have KI := hid i1; have HBI := hid i2; have HRI := hid i3; have HLn := hid i4; have HRo := hid i5; have HLo := hid i6; have HHi := hid i7
  clear HI i1 i2 i3 i4 i5 i6 i7 HB2 HR2 HRow K2 l0 b0 b1 b2 b3 b4 b5 b6 b7
  have b0 := HBI.out.at_ 0
  have b1 := HBI.out.at_ 1
  have b2 := HBI.out.at_ 2
  have b3 := HBI.out.at_ 3
  have b4 := HBI.out.at_ 4
  have b5 := HBI.out.at_ 5
  have b6 := HBI.out.at_ 6
  have b7 := HBI.out.at_ 7
  simp at b0 b1 b2 b3 b4 b5 b6 b7
  have l0 : g0 < wr.heap.size := HBI.out.here
  by_cases hlt : k < nB
  ·obtain ⟨gB, eoB, hgB, hrow⟩ := HRo.out (by omega)
   have HRw := hid hrow
   obtain ⟨y, ey⟩ : ∃ a, B[k]? = some a := ⟨_, List.getElem?_eq_getElem (by rw [HN.out.1]; exact hlt)⟩
   have eyL : L[k]? = some y := by rw [HLo.out k (Nat.le_refl _)]; exact ey
   have hcells := (hrow.lsB k y eyL).b11
   have hyB := List.mem_of_getElem? ey
   have hyS := HL.out.at_.sB y hyB
   have hyI := HL.out.okP y hyB
   have hy8 := H8.out y hyB
   have hyX : Hid (Sl w y.ao y.n y.f) := hyS.1
   obtain ⟨ao', ac, hcw, hcopy⟩ := copyV_c y.k y.r y.ao y.n y.c y.f hy8 hyI
   have HCW := hid hcw
   have HCP := hid (fun v (kk : Made w.heap.size w v) => hcopy v (fun hn => by obtain ⟨b, off, e, hp⟩ := hyX.out hn; exact ⟨b, off, e, hp.kept kk⟩))
   have EY := hid ey; have EYL := hid eyL
   clear ey eyL hyB hyS hyI hy8 hcw hcopy hrow hyX
   obtain ⟨x0, x1, x2, x3, x4, x5, x6, x7, x8, x9, x10, x11, x12, x13⟩ := y
   obtain ⟨a0, a1, a2, a3, a4, a5, a6, a7, a8, a9, a10⟩ := hcells
   simp only [] at a8 a9 a10 HCP HCW
   simp only [Nat.zero_add] at a8 a9 a10
   clear a0 a1 a2 a3 a4 a5 a6 a7
   have lB : gB < wr.heap.size := HRw.out.here
   have eob := hid eoB
   subst eoB
   go_wp2_with fail
   refine MK.reg_mk (alS ao' x11 x13) 10 [0, 1, 2, 3, 4, 5, 6, 7, 8, 9] [0, 1, 2, 3, 4, 5, 6, 7, 8] [9] [] (fun _ => []) (val := valS x8 x9 ao' x11 ac) (by kernel_rfl) (by kernel_rfl) ?hpu ?_
   case hpu => intro p hp; simp at hp
   refine MK.can_class (rest := [9]) [0, 1, 2, 3, 4, 5, 6, 7, 8] [] 36 (alS_lasts _ _ _) (MK.any_class _) (by kernel_rfl) rfl (by kernel_rfl) (by kernel_rfl) ?_
   apply Exists.intro
   refine ⟨?q1, ?q2⟩
   case q1 =>
    intro Ty hT fw hf _
    have z5 := Class.reads hf b5
    have z8 := Class.reads hf a8
    have z9 := Class.reads hf a9
    have z10 := Class.reads hf a10
    change wpQuiet _ _ _ _ [_, _, _, _, _, _, _, _, _] _
    repeat (go_big_quiet_step (fail))
    exact wpQuiet_nil rfl
   refine MK.can_mk 9 23 _ rfl rfl rfl rfl ?m1 fun g6 e6 => ?m2
   case m1 =>
    intro G' u _ hu
    rw [show (execOp _ _).run Tryz.prog u = .ok (.enter 40 #[shapeV x8 x9 (.slice x10 x11 x12)]) u by kernel_rfl]
    show Calls _ _ _ _ _
    refine (HCP.out u (KI.out.then_ (hu.1.low KI.out.1.size))).mono ?_
    rintro e v ⟨g, e', rfl, h1, h2, h3, h4⟩
    exact ⟨g, e', rfl, hu.next (alS_lasts _ _ _) h4 h1 h2 h3⟩
   rw [show valS x8 x9 ao' x11 ac 9 g6 e6 = shapeV x8 x9 (.slice (ao' g6) x11 (ac e6)) from rfl]
   simp only [Act.put, List.setIfInBounds_toArray, List.set_cons_succ, List.set_cons_zero]
   intro w3 hu
   obtain ⟨hg6, hg6', h3⟩ := hu.2.1 9 (g6, e6) (by unfold MK.upd; simp)
   have k3 := hu.1
   have K3 := hid (KI.out.then_ (k3.low KI.out.1.size))
   have HB3 := hid (HBI.out.stays k3 l0)
   have HR3 := hid (HRI.out.stays k3 HRI.out.here)
   have HRw3 := hid (HRw.out.stays k3 lB)
   have HC3 : Hid (CornersAt w3 (ao' g6) g6 x11 x13) := h3
   have HHi3 : Hid (∀ (i : Nat) b b', i < k → B[i]? = some b → L[i]? = some b' → SameB b b' ∧ Mine (fun g => g = g0 ∨ g = g1 ∨ some (⟨gB, 0, none⟩ : Addr) = some ⟨g, 0, none⟩) w.heap.size w3 b') := fun i b b' h1 h2 h3 => ⟨(HHi.out i b b' h1 h2 h3).1, MadeMine (HHi.out i b b' h1 h2 h3).2 k3⟩
   have hg6g : Hid (gB < g6 ∧ g1 < g6 ∧ w.heap.size ≤ g6 ∧ g6 < w3.heap.size) := ⟨by omega, by omega, by have := KI.out.1.size; omega, hg6'⟩
   clear hu h3 k3 l0 lB b0 b1 b2 b3 b4 b5 b6 b7 a8 a9 a10 hg6 hg6' HCP HBI HRI HRw KI HHi HRo
   simp only [List.drop_succ_cons, List.drop_zero]
   have b0 := HB3.out.at_ 0
   have b1 := HB3.out.at_ 1
   have b2 := HB3.out.at_ 2
   have b3 := HB3.out.at_ 3
   have b4 := HB3.out.at_ 4
   have b5 := HB3.out.at_ 5
   have b6 := HB3.out.at_ 6
   have b7 := HB3.out.at_ 7
   simp at b0 b1 b2 b3 b4 b5 b6 b7
   have l0 : g0 < w3.heap.size := HB3.out.here
   have hcells := (HRw3.out.lsB k _ EYL.out).b11
   obtain ⟨a0, a1, a2, a3, a4, a5, a6, a7, a8, a9, a10⟩ := hcells
   simp only [Nat.zero_add] at a8 a9 a10
   clear a0 a1 a2 a3 a4 a5 a6 a7
   have lB : gB < w3.heap.size := HRw3.out.here
   have fB : ∀ i, w3.frozen? ⟨gB, i, none⟩ = false := HRw3.out.free
   go_wp2_with fail
   refine NoPanic.normal ?_
   obtain ⟨W4, eW4⟩ : ∃ V, V = ((w3.setCell ⟨gB, k * 11 + 8, none⟩ (.int .i64 x8)).setCell ⟨gB, k * 11 + 9, none⟩ (.int .i64 x9)).setCell ⟨gB, k * 11 + 10, none⟩ (.slice (ao' g6) x11 (ac e6)) := ⟨_, rfl⟩
   have eW4' : W4 = w3.setCells gB (k * 11 + 8) [.int .i64 x8, .int .i64 x9, .slice (ao' g6) x11 (ac e6)] := eW4
   have k4 : But (fun b => b = gB) w3 W4 := by rw [eW4']; exact But.setCells (X := fun b => b = gB) (g := gB) rfl _ _ (But.rfl_ _ _)
   have K4 : Hid (Made w.heap.size w W4) := But.made_ K3.out k4 K3.out.1.size (fun b hb => by have hb : b = gB := hb; omega)
   have HB4 := hid (HB3.out.but k4 (by show ¬ g0 = gB; omega))
   have HR4 := hid (HR3.out.but k4 (by show ¬ g1 = gB; omega))
   have HRw4 : Hid (RowL encB 11 W4 gB 43 nB (L.set k ⟨x0, x1, x2, x3, x4, x5, x6, x7, x8, x9, ao' g6, x11, ac e6, x13⟩)) := by
    unfold Hid
    rw [eW4']
    refine HRw3.out.part encB_len EYL.out 8 _ (by simp) (fun b v hv => ?_)
    have hb : b < 11 := by rw [← encB_len ⟨x0, x1, x2, x3, x4, x5, x6, x7, x8, x9, ao' g6, x11, ac e6, x13⟩]; exact (List.getElem?_eq_some_iff.1 hv).1
    match b, hb with
    | 0, _ => exact hv
    | 1, _ => exact hv
    | 2, _ => exact hv
    | 3, _ => exact hv
    | 4, _ => exact hv
    | 5, _ => exact hv
    | 6, _ => exact hv
    | 7, _ => exact hv
    | 8, _ => exact hv
    | 9, _ => exact hv
    | 10, _ => exact hv
   have hX4 : ∀ b, b = gB → b = g0 ∨ b = g1 ∨ some (⟨gB, 0, none⟩ : Addr) = some ⟨b, 0, none⟩ := fun b hb => .inr (.inr (by rw [hb]))
   have HM4 : Hid (Mine (fun g => g = g0 ∨ g = g1 ∨ some (⟨gB, 0, none⟩ : Addr) = some ⟨g, 0, none⟩) w.heap.size W4 ⟨x0, x1, x2, x3, x4, x5, x6, x7, x8, x9, ao' g6, x11, ac e6, x13⟩) := by
    have hg := hg6g.out
    refine Mine.but (Y := fun b => b = gB) (w := w3) ⟨HC3.out.1, ?_⟩ k4 hX4
    rcases HCW.out with h | h
    ·exact .inl ⟨h.1 g6, h.2.1, h.2.2 e6⟩
    ·refine .inr ⟨g6, h.1 g6, hg.2.2.1, fun hh => ?_, hg.2.2.2, HC3.out.2⟩
     rcases hh with hh | hh | hh
     ·omega
     ·omega
     ·cases hh; omega
   have HHi4 : Hid (∀ (i : Nat) b b', i < k → B[i]? = some b → L[i]? = some b' → SameB b b' ∧ Mine (fun g => g = g0 ∨ g = g1 ∨ some (⟨gB, 0, none⟩ : Addr) = some ⟨g, 0, none⟩) w.heap.size W4 b') := fun i b b' h1 h2 h3 => ⟨(HHi3.out i b b' h1 h2 h3).1, (HHi3.out i b b' h1 h2 h3).2.but k4 hX4⟩
   rw [← eW4]
   clear eW4 eW4' k4 l0 lB fB b0 b1 b2 b3 b4 b5 b6 b7 a8 a9 a10 HB3 HR3 HRw3 HC3 HHi3
   go_wp2_with fail
   go_roundg (nB - (k + 1))
   case measure => omega
   case rel =>
    refine ⟨k + 1, L.set k ⟨x0, x1, x2, x3, x4, x5, x6, x7, x8, x9, ao' g6, x11, ac e6, x13⟩, by omega, by go_num, K4.out, HB4.out, HR4.out, by rw [List.length_set]; exact HLn.out, fun _ => ⟨gB, rfl, hgB, HRw4.out⟩, fun i hi => ?_, fun i b b' hi hb hb' => ?_⟩
    ·rw [List.getElem?_set_ne (by omega)]
     exact HLo.out i (by omega)
    ·by_cases e : k = i
     ·subst e
      rw [List.getElem?_set_self (by rw [HLn.out]; exact hlt)] at hb'
      cases hb'
      have := EY.out.symm.trans hb
      cases this
      exact ⟨⟨rfl, rfl, rfl, rfl, rfl, rfl, rfl, rfl, rfl, rfl, rfl, rfl⟩, HM4.out⟩
     ·rw [List.getElem?_set_ne e] at hb'
      exact HHi4.out i b b' (by omega) hb hb'
  ·have e : k = nB := by omega
   subst e
   have hSame : Hid (∀ (i : Nat) b b', B[i]? = some b → L[i]? = some b' → SameB b b') := fun i b b' h1 h2 => (HHi.out i b b' (by rw [← HN.out.1]; exact (List.getElem?_eq_some_iff.1 h1).1) h1 h2).1
   have hMine : Hid (∀ b' ∈ L, Mine (fun g => g = g0 ∨ g = g1 ∨ ob' = some ⟨g, 0, none⟩) w.heap.size wr b') := fun b' hb' => by
    obtain ⟨i, hi⟩ := List.mem_iff_getElem?.1 hb'
    have hik : i < k := by rw [← HLn.out]; exact (List.getElem?_eq_some_iff.1 hi).1
    obtain ⟨b0', hb0⟩ : ∃ a, B[i]? = some a := ⟨_, List.getElem?_eq_getElem (by rw [HN.out.1]; exact hik)⟩
    exact (HHi.out i b0' b' hik hb0 hi).2
   clear HHi HLo
   go_wp2_with fail
   refine (HCJ.out _ KI.out).mono ?_
   rintro e w5 ⟨oj', cj', rfl, hnj, hoj, k5⟩
   have HOJ := hid (own_but (X := Nil0) hoj (But.rfl_ _ _) (fun _ _ h => h) KI.out.1.size)
   have K5 := hid (KI.out.then_ (k5.low KI.out.1.size))
   have HB5 := hid (HBI.out.stays k5 l0)
   have HR5 := hid (HRI.out.stays k5 HRI.out.here)
   have HNJ := hid hnj
   have HRo5 : Hid (0 < k → ∃ g, ob' = some ⟨g, 0, none⟩ ∧ g1 < g ∧ RowL encB 11 w5 g 43 k L) := fun h => by
    obtain ⟨g, e, h1, h2⟩ := HRo.out h
    exact ⟨g, e, h1, h2.stays k5 h2.here⟩
   have hj0 : Hid (∀ b off s, oj' = some ⟨b, off, s⟩ → g0 < b ∧ g1 < b ∧ wr.heap.size ≤ b) := fun b off s e => by have h1 := HNJ.out.fresh b off s e; have h2 := HRI.out.here; omega
   have hMine5 : Hid (∀ b' ∈ L, Mine (fun g => g = g0 ∨ g = g1 ∨ ob' = some ⟨g, 0, none⟩ ∨ wr.heap.size ≤ g) w.heap.size w5 b') := fun b' hb' => MadeMine ((hMine.out b' hb').more (fun g hg => by
    rcases hg with hg | hg | hg | hg
    ·exact .inl (.inl hg)
    ·exact .inl (.inr (.inl hg))
    ·exact .inl (.inr (.inr hg))
    ·exact .inr hg)) k5
   obtain ⟨sz, esz⟩ : ∃ z, wr.heap.size = z := ⟨_, rfl⟩
   rw [esz] at hMine5 hj0
   have hsz5 : Hid (sz ≤ w5.heap.size) := by unfold Hid; rw [← esz]; exact k5.1.size
   clear k5 hnj hoj l0 b0 b1 b2 b3 b4 b5 b6 b7 KI HBI HRI HRo hMine esz
   have b0 := HB5.out.at_ 0
   have b1 := HB5.out.at_ 1
   have b2 := HB5.out.at_ 2
   have b3 := HB5.out.at_ 3
   have b4 := HB5.out.at_ 4
   have b5 := HB5.out.at_ 5
   have b6 := HB5.out.at_ 6
   have b7 := HB5.out.at_ 7
   simp at b0 b1 b2 b3 b4 b5 b6 b7
   have l0 : g0 < w5.heap.size := HB5.out.here
   have f0 : ∀ i, w5.frozen? ⟨g0, i, none⟩ = false := HB5.out.free
   go_upto_region 8 with fail
   obtain ⟨W6, eW6⟩ : ∃ V, V = w5.setCell ⟨g0, 6, none⟩ (.slice oj' nJ cj') := ⟨_, rfl⟩
   have k6 : But (fun b => b = g0) w5 W6 := by rw [eW6]; exact (But.rfl_ (fun b => b = g0) _).put (p := ⟨g0, 6, none⟩) (.inl rfl) _
   have K6 : Hid (Made w.heap.size w W6) := But.made_ K5.out k6 K5.out.1.size (fun b hb => by have hb : b = g0 := hb; omega)
   have HB6 : Hid (Has W6 g0 31 #[.int .i64 tk, .int .i64 nb, .int .i64 nj, .int .i64 gx, .int .i64 gy, .slice ob' k cb', .slice oj' nJ cj', .slice oc nC cc]) := by unfold Hid; rw [eW6]; exact HB5.out.put 6 _
   have HR6 := hid (HR5.out.but k6 hne)
   have HRo6 : Hid (0 < k → ∃ g, ob' = some ⟨g, 0, none⟩ ∧ g1 < g ∧ RowL encB 11 W6 g 43 k L) := fun h => by
    obtain ⟨g, e, h1, h2⟩ := HRo5.out h
    exact ⟨g, e, h1, h2.but k6 (by show ¬ g = g0; omega)⟩
   have HJr6 : Hid (0 < nJ → ∃ g, oj' = some ⟨g, 0, none⟩ ∧ g1 < g ∧ RowL encJ 8 W6 g 36 nJ J) := fun h => by
    obtain ⟨g, e, h2⟩ := HNJ.out.row h
    have := hj0.out g 0 _ e
    exact ⟨g, e, this.2.1, h2.but k6 (by show ¬ g = g0; omega)⟩
   have hM6 : Hid (∀ b' ∈ L, Mine (fun g => g = g0 ∨ g = g1 ∨ ob' = some ⟨g, 0, none⟩ ∨ sz ≤ g) w.heap.size W6 b') := fun b' hb' => (hMine5.out b' hb').but k6 (fun b hb => .inl hb)
   have HOJ6 := hid (own_but HOJ.out k6 (fun g hg hb => by have hb : g = g0 := hb; have h1 := ownBlock_at hg; obtain ⟨o, h1⟩ := h1; have := hj0.out g _ _ h1; omega) (Nat.le_refl _))
   have hsz6 : Hid (sz ≤ W6.heap.size) := Nat.le_trans hsz5.out k6.size
   rw [← eW6]
   clear eW6 k6 l0 f0 b0 b1 b2 b3 b4 b5 b6 b7 HB5 HR5 HRo5 hMine5
   have b0 := HB6.out.at_ 0
   have b1 := HB6.out.at_ 1
   have b2 := HB6.out.at_ 2
   have b3 := HB6.out.at_ 3
   have b4 := HB6.out.at_ 4
   have b5 := HB6.out.at_ 5
   have b6 := HB6.out.at_ 6
   have b7 := HB6.out.at_ 7
   simp at b0 b1 b2 b3 b4 b5 b6 b7
   have l0 : g0 < W6.heap.size := HB6.out.here
   go_wp2_with fail
   refine (HCC.out _ K6.out).mono ?_
   rintro e w7 ⟨oc', cc', rfl, hnc, k7, hnil⟩
   have HNil := hid hnil
   clear hnil
   have K7 := hid (K6.out.then_ (k7.low K6.out.1.size))
   have HB7 := hid (HB6.out.stays k7 l0)
   have HR7 := hid (HR6.out.stays k7 HR6.out.here)
   have HNC := hid hnc
   have hc0 : Hid (∀ b off s, oc' = some ⟨b, off, s⟩ → g0 < b ∧ g1 < b ∧ sz ≤ b) := fun b off s e => by have h1 := HNC.out.fresh b off s e; have h2 := HR6.out.here; have h3 := hsz6.out; omega
   have HRo7 : Hid (0 < k → ∃ g, ob' = some ⟨g, 0, none⟩ ∧ g1 < g ∧ RowL encB 11 w7 g 43 k L) := fun h => by
    obtain ⟨g, e, h1, h2⟩ := HRo6.out h
    exact ⟨g, e, h1, h2.stays k7 h2.here⟩
   have HJr7 : Hid (0 < nJ → ∃ g, oj' = some ⟨g, 0, none⟩ ∧ g1 < g ∧ RowL encJ 8 w7 g 36 nJ J) := fun h => by
    obtain ⟨g, e, h1, h2⟩ := HJr6.out h
    exact ⟨g, e, h1, h2.stays k7 h2.here⟩
   have HOJ7 := hid (own_but (X := Nil0) HOJ6.out (Made.but k7) (fun _ _ h => h) (Nat.le_refl _))
   have hM7 : Hid (∀ b' ∈ L, Mine (fun g => g = g0 ∨ g = g1 ∨ ob' = some ⟨g, 0, none⟩ ∨ sz ≤ g) w.heap.size w7 b') := fun b' hb' => MadeMine (hM6.out b' hb') k7
   clear k7 hnc l0 b0 b1 b2 b3 b4 b5 b6 b7 HB6 HR6 HRo6 HJr6 hM6 K5 K6
   have b0 := HB7.out.at_ 0
   have b1 := HB7.out.at_ 1
   have b2 := HB7.out.at_ 2
   have b3 := HB7.out.at_ 3
   have b4 := HB7.out.at_ 4
   have b5 := HB7.out.at_ 5
   have b6 := HB7.out.at_ 6
   have b7 := HB7.out.at_ 7
   simp at b0 b1 b2 b3 b4 b5 b6 b7
   have l0 : g0 < w7.heap.size := HB7.out.here
   have f0 : ∀ i, w7.frozen? ⟨g0, i, none⟩ = false := HB7.out.free
   go_upto_region 9 with fail
   obtain ⟨W8, eW8⟩ : ∃ V, V = w7.setCell ⟨g0, 7, none⟩ (.slice oc' nC cc') := ⟨_, rfl⟩
   have k8 : But (fun b => b = g0 ∨ b = g1) w7 W8 := by rw [eW8]; exact (But.rfl_ (fun b => b = g0 ∨ b = g1) _).put (p := ⟨g0, 7, none⟩) (.inl (.inl rfl)) _
   have HB8 : Hid (Has W8 g0 31 #[.int .i64 tk, .int .i64 nb, .int .i64 nj, .int .i64 gx, .int .i64 gy, .slice ob' k cb', .slice oj' nJ cj', .slice oc' nC cc']) := by unfold Hid; rw [eW8]; exact HB7.out.put 7 _
   have HR8 : Hid (Has W8 g1 31 #[.int .i64 0, .int .i64 0, .int .i64 0, .int .i64 0, .int .i64 0, .slice none 0 0, .slice none 0 0, .slice none 0 0]) := by unfold Hid; rw [eW8]; exact HR7.out.other _ hne _
   have KB8 := hid k8
   rw [← eW8]
   clear eW8 k8 l0 f0 b0 b1 b2 b3 b4 b5 b6 b7 HB7 HR7
   have b0 := HB8.out.at_ 0
   have b1 := HB8.out.at_ 1
   have b2 := HB8.out.at_ 2
   have b3 := HB8.out.at_ 3
   have b4 := HB8.out.at_ 4
   have b5 := HB8.out.at_ 5
   have b6 := HB8.out.at_ 6
   have b7 := HB8.out.at_ 7
   simp at b0 b1 b2 b3 b4 b5 b6 b7
   have l0 : g0 < W8.heap.size := HB8.out.here
   have c0 := HR8.out.at_ 0
   have c1 := HR8.out.at_ 1
   have c2 := HR8.out.at_ 2
   have c3 := HR8.out.at_ 3
   have c4 := HR8.out.at_ 4
   have c5 := HR8.out.at_ 5
   have c6 := HR8.out.at_ 6
   have c7 := HR8.out.at_ 7
   simp at c0 c1 c2 c3 c4 c5 c6 c7
   have l1 : g1 < W8.heap.size := HR8.out.here
   have f1 : ∀ i, W8.frozen? ⟨g1, i, none⟩ = false := HR8.out.free
   go_wp2_with fail
   obtain ⟨V, eV⟩ : ∃ V, V = (((((((W8.setCell ⟨g1, 0, none⟩ (.int .i64 tk)).setCell ⟨g1, 1, none⟩ (.int .i64 nb)).setCell ⟨g1, 2, none⟩ (.int .i64 nj)).setCell ⟨g1, 3, none⟩ (.int .i64 gx)).setCell ⟨g1, 4, none⟩ (.int .i64 gy)).setCell ⟨g1, 5, none⟩ (.slice ob' k cb')).setCell ⟨g1, 6, none⟩ (.slice oj' nJ cj')).setCell ⟨g1, 7, none⟩ (.slice oc' nC cc') := ⟨_, rfl⟩
   have hV : Has V g1 31 #[.int .i64 tk, .int .i64 nb, .int .i64 nj, .int .i64 gx, .int .i64 gy, .slice ob' k cb', .slice oj' nJ cj', .slice oc' nC cc'] := by rw [eV]; exact (((((((HR8.out.put 0 _).put 1 _).put 2 _).put 3 _).put 4 _).put 5 _).put 6 _).put 7 _
   have kV : But (fun b => b = g0 ∨ b = g1) w7 V := by rw [eV]; exact (((((((KB8.out.put (p := ⟨g1, 0, none⟩) (.inl (.inr rfl)) _).put (p := ⟨g1, 1, none⟩) (.inl (.inr rfl)) _).put (p := ⟨g1, 2, none⟩) (.inl (.inr rfl)) _).put (p := ⟨g1, 3, none⟩) (.inl (.inr rfl)) _).put (p := ⟨g1, 4, none⟩) (.inl (.inr rfl)) _).put (p := ⟨g1, 5, none⟩) (.inl (.inr rfl)) _).put (p := ⟨g1, 6, none⟩) (.inl (.inr rfl)) _).put (p := ⟨g1, 7, none⟩) (.inl (.inr rfl)) _
   try rw [← eV]
   clear eV c0 c1 c2 c3 c4 c5 c6 c7 b0 b1 b2 b3 b4 b5 b6 b7 f1
   have q0 := hV.at_ 0
   have q1 := hV.at_ 1
   have q2 := hV.at_ 2
   have q3 := hV.at_ 3
   have q4 := hV.at_ 4
   have q5 := hV.at_ 5
   have q6 := hV.at_ 6
   have q7 := hV.at_ 7
   simp at q0 q1 q2 q3 q4 q5 q6 q7
   refine bodyPost_ret (v := wdV tk nb nj gx gy (.slice ob' k cb') (.slice oj' nJ cj') (.slice oc' nC cc')) (by simp [results, Tryz.results83, go_sem, q0, q1, q2, q3, q4, q5, q6, q7]) rfl ⟨L, ob', oj', oc', cb', cj', cc', rfl, ?_, HLn.out, hSame.out, ?_, ?_, ?_, own_but HOJ7.out kV (fun g hg hb => by have h1 := ownBlock_at hg; obtain ⟨o, h1⟩ := h1; have := hj0.out g _ _ h1; rcases hb with hb | hb <;> omega) (Nat.le_refl _), HNil.out, ?_⟩
   ·exact But.made_ K7.out kV K7.out.1.size (fun b hb => by rcases hb with hb | hb <;> omega)
   ·refine ⟨HLn.out, ?_, HNB.out.nc, HNB.out.cm, HNB.out.ok, fun b off s e => by have := hfrB.out b off s e; omega, fun h => ?_⟩
    ·intro h
     obtain ⟨g, e, h1, h2⟩ := HRo7.out (by rw [← HLn.out]; exact h)
     exact e ▸ (h2.but kV (by show ¬ (g = g0 ∨ g = g1); omega)).lsT h
    ·obtain ⟨g, e, h1, h2⟩ := HRo7.out h
     exact ⟨g, e, h2.but kV (by show ¬ (g = g0 ∨ g = g1); omega)⟩
   ·refine ⟨HNJ.out.len, ?_, HNJ.out.nc, HNJ.out.cm, HNJ.out.ok, fun b off s e => by have := hj0.out b off s e; omega, fun h => ?_⟩
    ·intro h
     obtain ⟨g, e, h1, h2⟩ := HJr7.out (by rw [← HNJ.out.len]; exact h)
     exact e ▸ (h2.but kV (by show ¬ (g = g0 ∨ g = g1); omega)).lsT h
    ·obtain ⟨g, e, h1, h2⟩ := HJr7.out h
     exact ⟨g, e, h2.but kV (by show ¬ (g = g0 ∨ g = g1); omega)⟩
   ·have hcr : 0 < nC → ∃ g, oc' = some ⟨g, 0, none⟩ ∧ RowL encC 5 V g 118 nC C := fun h => by
     obtain ⟨g, e, h2⟩ := HNC.out.row h
     have := hc0.out g 0 _ e
     exact ⟨g, e, h2.but kV (by show ¬ (g = g0 ∨ g = g1); omega)⟩
    refine ⟨HNC.out.len, ?_, HNC.out.nc, HNC.out.cm, HNC.out.ok, fun b off s e => by have := hc0.out b off s e; omega, hcr⟩
    intro h
    obtain ⟨g, e, h2⟩ := hcr (by rw [← HNC.out.len]; exact h)
    exact e ▸ h2.lsT h
   ·intro b hb
    refine ((hM7.out b hb).but kV (fun g hg => by rcases hg with hg | hg
                                                  ·exact .inl hg
                                                  ·exact .inr (.inl hg))).more (fun g hg => .inl ?_)
    rcases hg with hg | hg | hg
    ·exact .inr (.inr (.inl hg))
    ·exact .inr (.inr (.inr (hj0.out g 0 _ hg).2.2))
    ·exact .inr (.inr (.inr (hc0.out g 0 _ hg).2.2))
end Go.Proofs.YtjhcejmfiekjgaaGreat.Fx
/- slices.Equal of joints, contacts, corners; shape.Same. -/
namespace Go.Proofs.YtjhcejmfiekjgaaGreat.Fx
open Go.ChangeShapes Go.WideShapes Go.ChangeAt Go.RowKit
set_option linter.unusedVariables false
theorem vneq (a b c d : Int) (r : Bool) (hr : r = true ↔ ¬ (a = c ∧ b = d)) (w : World) : (binOp .neq 26 (vecV a b) (vecV c d)).run Tryz.prog w = .ok (.bool r) w := by
 by_cases h1 : a = c
 ·by_cases h2 : b = d
  ·have e : r = false := Bool.eq_false_iff.2 fun h => hr.1 h ⟨h1, h2⟩
   subst h1; subst h2; subst e
   go_simp
  ·have e : r = true := hr.2 fun h => h2 h.2
   have hy : (b == d) = false := by simpa using h2
   subst h1; subst e
   go_simp
 ·have e : r = true := hr.2 fun h => h1 h.1
  have hx : (a == c) = false := by simpa using h1
  subst e
  go_simp
end Go.Proofs.YtjhcejmfiekjgaaGreat.Fx
/- world.Same. -/
namespace Go.Proofs.YtjhcejmfiekjgaaGreat.Fx
open Go.ChangeShapes Go.WideShapes Go.ChangeAt Go.RowKit
set_option linter.unusedVariables false
def EqB (b b' : Bd) : Prop := b.id = b'.id ∧ (b.x = b'.x ∧ b.y = b'.y) ∧ (b.vx = b'.vx ∧ b.vy = b'.vy) ∧ b.an = b'.an ∧ b.sp = b'.sp ∧ b.de = b'.de ∧ b.k = b'.k ∧ b.r = b'.r ∧ b.n = b'.n ∧ ∀ i, i < b.n → b.f i = b'.f i
def EqBs (B B' : List Bd) : Prop := B.length = B'.length ∧ ∀ (i : Nat) x y, B[i]? = some x → B'[i]? = some y → EqB x y
end Go.Proofs.YtjhcejmfiekjgaaGreat.Fx
/- The statements' own in, may, joins; world.New. -/
namespace Go.Proofs.YtjhcejmfiekjgaaGreat.Fx
open Go.ChangeShapes Go.WideShapes Go.ChangeAt Go.RowKit
set_option linter.unusedVariables false
abbrev wd0 : Value := .agg #[.int .i64 0, .int .i64 1, .int .i64 1, .int .i64 0, .int .i64 0, .slice none 0 0, .slice none 0 0, .slice none 0 0]
theorem new_c (w : World) : Calls Tryz.prog 17 #[] w fun e v => e = .returned wd0 ∧ Made w.heap.size w v := by
 go_enter Tryz.func17, Tryz.ntmps17
 go_wp2_with fail
 obtain ⟨W, eW⟩ : ∃ W, W = (w.alloc (.cells #[.int .i64 0, .int .i64 1, .int .i64 1, .int .i64 0, .int .i64 0, .slice none 0 0, .slice none 0 0, .slice none 0 0] 31)) := ⟨_, rfl⟩
 refine bodyPost_ret (v := wd0) (by simp [results, Tryz.results17, go_sem]) rfl ⟨rfl, ?_⟩
 exact (Made.rfl_ _ _).cells (Nat.le_refl _) _ _
end Go.Proofs.YtjhcejmfiekjgaaGreat.Fx
/- The middle lies between corners of a shape: so some corner is on either side of each line through it. No Go in sight. -/
namespace Go.Proofs.YtjhcejmfiekjgaaGreat.Fx
set_option linter.unusedVariables false
def Mid (x y : Nat → Int) (n : Nat) : Prop := ∃ (i j l : Nat) (a b c : Int), i < n ∧ j < n ∧ l < n ∧ 0 ≤ a ∧ 0 ≤ b ∧ 0 ≤ c ∧ 0 < a + b + c ∧ a * x i + b * x j + c * x l = 0 ∧ a * y i + b * y j + c * y l = 0
theorem box_mid (a b : Int) : Mid (boxX a) (boxY b) 4 :=
 ⟨0, 2, 2, 1, 1, 0, by omega, by omega, by omega, by omega, by omega, by omega, by omega, by unfold boxX; simp; omega, by unfold boxY; simp; omega⟩
def midOk (n t : Nat) : Bool := (List.range n).any fun i => (List.range n).any fun j => (List.range n).any fun l =>
 let a := ringX n t j * ringY n t l - ringY n t j * ringX n t l
 let b := ringX n t l * ringY n t i - ringY n t l * ringX n t i
 let c := ringX n t i * ringY n t j - ringY n t i * ringX n t j
 decide (0 ≤ a) && decide (0 ≤ b) && decide (0 ≤ c) && decide (0 < a + b + c) && decide (a * ringX n t i + b * ringX n t j + c * ringX n t l = 0) && decide (a * ringY n t i + b * ringY n t j + c * ringY n t l = 0)
theorem mid_check : (List.range 6).all (fun n => (List.range 10).all fun t => midOk (3 + n) t) = true := by decide +kernel
theorem ring_mid {n : Nat} (t : Nat) (n0 : 3 ≤ n) (n1 : n ≤ 8) : Mid (ringX n t) (ringY n t) n := by
 have h := mid_check
 rw [List.all_eq_true] at h
 have h1 := h (n - 3) (List.mem_range.2 (by omega))
 rw [List.all_eq_true] at h1
 have h2 := h1 (t % 10) (List.mem_range.2 (Nat.mod_lt _ (by omega)))
 rw [show 3 + (n - 3) = n by omega] at h2
 rw [(ring_mod n t).1, (ring_mod n t).2]
 unfold midOk at h2
 simp only [List.any_eq_true, List.mem_range, Bool.and_eq_true, decide_eq_true_eq] at h2
 obtain ⟨i, hi, j, hj, l, hl, ⟨⟨⟨⟨h3, h4⟩, h5⟩, h6⟩, h7⟩, h8⟩ := h2
 exact ⟨i, j, l, _, _, _, hi, hj, hl, h3, h4, h5, h6, h7, h8⟩
def ab (z : Int) : Int := if z < 0 then -z else z
def Fat (x y : Nat → Int) (n : Nat) : Prop := ∀ i, i < n →
 (ab (x ((i + 1) % n) - x i) + ab (y ((i + 1) % n) - y i)) * (ab (x ((i + 2) % n) - x ((i + 1) % n)) + ab (y ((i + 2) % n) - y ((i + 1) % n))) ≤
 4 * ((x ((i + 1) % n) - x i) * (y ((i + 2) % n) - y ((i + 1) % n)) - (y ((i + 1) % n) - y i) * (x ((i + 2) % n) - x ((i + 1) % n)))
theorem box_fat {a b : Int} (a0 : 1 ≤ a) (b0 : 1 ≤ b) : Fat (boxX a) (boxY b) 4 := fun i hi => by
 have p := Int.mul_pos (show 0 < a by omega) (show 0 < b by omega)
 have h1 : ab (a - -a) = 2 * a := by unfold ab; split <;> omega
 have h2 : ab (b - -b) = 2 * b := by unfold ab; split <;> omega
 have h3 : ab (-a - a) = 2 * a := by unfold ab; split <;> omega
 have h4 : ab (-b - b) = 2 * b := by unfold ab; split <;> omega
 have z : ab 0 = 0 := rfl
 rcases (show i = 0 ∨ i = 1 ∨ i = 2 ∨ i = 3 by omega) with rfl | rfl | rfl | rfl <;>
  (simp only [boxX, boxY, true_or, or_true, if_true, if_false, Nat.reduceAdd, Nat.reduceMod, Nat.reduceEqDiff, or_self, Int.sub_self, h1, h2, h3, h4, z]; grind)
def fatOk (n t : Nat) : Bool := (List.range n).all fun i => decide (
 (ab (ringX n t ((i + 1) % n) - ringX n t i) + ab (ringY n t ((i + 1) % n) - ringY n t i)) * (ab (ringX n t ((i + 2) % n) - ringX n t ((i + 1) % n)) + ab (ringY n t ((i + 2) % n) - ringY n t ((i + 1) % n))) ≤
 4 * ((ringX n t ((i + 1) % n) - ringX n t i) * (ringY n t ((i + 2) % n) - ringY n t ((i + 1) % n)) - (ringY n t ((i + 1) % n) - ringY n t i) * (ringX n t ((i + 2) % n) - ringX n t ((i + 1) % n))))
theorem fat_check : (List.range 6).all (fun n => (List.range 10).all fun t => fatOk (3 + n) t) = true := by decide +kernel
theorem ring_fat {n : Nat} (t : Nat) (n0 : 3 ≤ n) (n1 : n ≤ 8) : Fat (ringX n t) (ringY n t) n := fun i hi => by
 have h := fat_check
 rw [List.all_eq_true] at h
 have h1 := h (n - 3) (List.mem_range.2 (by omega))
 rw [List.all_eq_true] at h1
 have h2 := h1 (t % 10) (List.mem_range.2 (Nat.mod_lt _ (by omega)))
 rw [show 3 + (n - 3) = n by omega] at h2
 unfold fatOk at h2
 rw [List.all_eq_true] at h2
 rw [(ring_mod n t).1, (ring_mod n t).2]
 have h3 := h2 i (List.mem_range.2 hi)
 exact of_decide_eq_true h3
def Around (x y : Nat → Int) (n : Nat) : Prop := Round x y n ∧ Mid x y n ∧ Fat x y n
end Go.Proofs.YtjhcejmfiekjgaaGreat.Fx