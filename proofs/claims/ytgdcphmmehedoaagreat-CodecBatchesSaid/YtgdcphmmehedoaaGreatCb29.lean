/- OtJ CoX CoY Open -/
import Derived.Test.YtgdcphmmehedoaaGreatCb3
import Derived.Test.YtgdcphmmehedoaaGreatCb4
import Derived.Test.YtgdcphmmehedoaaGreatCb13
import Derived.Test.YtgdcphmmehedoaaGreatCb17
import Derived.Test.YtgdcphmmehedoaaGreatCb26
import Derived.Test.YtgdcphmmehedoaaGreatCb28
import Derived.Deep.SlicePairs
set_option maxRecDepth 100000
set_option maxHeartbeats 64000000
/- The statements' Orders of deeds. -/
namespace Go.Proofs.YtgdcphmmehedoaaGreat.Fx
open Go.ChangeShapes Go.WideShapes Go.ChangeAt Go.RowKit
set_option linter.unusedVariables false
theorem infoO : (Tryz.prog.info? 49).map (fun i => (i.zero, i.size, i.bytes)) = some (some (.agg #[.int .i64 0, .int .i64 0, .int .i64 0, .int .i64 0, .int .i64 0, .int .i64 0, .int .i64 0, .int .i64 0, .int .i64 0, .int .i64 0, .int .i64 0, .int .i64 0, .int .i64 0, .int .i64 0, .slice none 0 0]), 15, 136) := by kernel_rfl
def OffO (x : Value) (o : Or) : Prop := 0 < o.n → ∀ b off s, o.ao = some ⟨b, off, s⟩ → some b ≠ x.ownBlock
def OrOf (l : List De) (w : World) (o : Or) : Prop := OrI o ∧ (o.n ≤ 8 ∨ ∃ d ∈ l, o.n = d.rn) ∧ Sl w o.ao o.n o.f ∧ ((o.ao = none ∧ o.n = 0 ∧ o.c = 0) ∨ ∃ a, o.ao = some a)
theorem OrOf.kept {l : List De} {w v : World} {o : Or} (h : OrOf l w o) (k : Made w.heap.size w v) : OrOf l v o := ⟨h.1, h.2.1, Sl.kept h.2.2.1 k, h.2.2.2⟩
theorem orders_c {l : List De} {ao : Option Addr} {n c : Nat} {w : World} (most : Nat) (hmost : most ≤ 64) (hn : l.length = n) (hD : DesAt w ao l) (hnc : n ≤ c) (hcm : c ≤ maxLen) (ho : (ao = none ∧ n = 0 ∧ c = 0) ∨ ∃ a, ao = some a) :
  Calls Tryz.prog 24 #[.slice ao n c, .int .i64 (most : Nat)] w fun e v => ∃ (L : List Or) (x : Value), e = .returned x ∧ L.length = min n most ∧ v.ownsRow w.heap.size 49 15 x L.length (flatE encO L) ∧ (∀ o ∈ L, OrOf l v o ∧ OffO x o) ∧ Made w.heap.size w v := by
 unfold maxLen at hcm
 obtain ⟨m, em⟩ : ∃ m, min n most = m := ⟨_, rfl⟩
 have hmm : min (n : Int) (most : Int) = (m : Int) := by omega
 have hmn : m ≤ n := by omega
 have hmo : m ≤ most := by omega
 have HN := hid hn
 have HD := hid (fun v (k : Made w.heap.size w v) => hD.kept k)
 have HEM := hid em
 have HDw := hid hD.2
 obtain ⟨iO, hiO, hz0, hz1, hz2⟩ := info_parts infoO
 have iHi := hid hiO; have iH0 := hid hz0; have iH1 := hid hz1; have iH2 := hid hz2
 clear hn hD em hiO hz0 hz1 hz2
 go_enter Tryz.func24, Tryz.ntmps24
 rcases ho with ⟨rfl, rfl, rfl⟩ | ⟨adr, rfl⟩
 ·have hm0 : m = 0 := by omega
  go_wp2_with fail
  go_loopg [5, 7, 15] 0 (fun gg s5 s7 s15 wx => s15 = .int .i64 0 ∧ s5 = .slice none 0 0 ∧ Hid (Made w.heap.size w wx))
  case atStart => exact ⟨by first | rfl | trivial, rfl, Made.rfl_ _ _⟩
  case round =>
   obtain ⟨rfl, rfl, HH⟩ := hrel
   go_wp2_with fail
   go_ret
   exact ⟨[], _, rfl, by rw [HEM.out, hm0]; rfl, World.ownsRow_nil _ _ _ _, fun o ho => (by cases ho), HH.out⟩
 ·go_wp2_with fail
  go_loopg [5, 7, 15] m (fun gg s5 s7 s15 wx => ∃ (k : Nat) (L : List Or), k + gg = m ∧ s15 = .int .i64 (k : Nat) ∧ Hid (L.length = k ∧ wx.ownsRow w.heap.size 49 15 s5 k (flatE encO L) ∧ (∀ o ∈ L, OrOf l wx o ∧ OffO s5 o) ∧ Made w.heap.size w wx))
  case atStart => exact ⟨0, [], by omega, by first | rfl | trivial, rfl, World.ownsRow_nil _ _ _ _, fun o ho => (by cases ho), Made.rfl_ _ _⟩
  case round =>
   obtain ⟨k, L, hk, rfl, HH⟩ := hrel
   have HLk := hid HH.out.1
   have HW := hid HH.out.2.1
   have HO := hid HH.out.2.2.1
   have HM := hid HH.out.2.2.2
   clear HH
   by_cases hkm : k < m
   ·obtain ⟨d, hd⟩ : ∃ d, l[k]? = some d := ⟨_, List.getElem?_eq_getElem (by rw [HN.out]; omega)⟩
    have hdes := HD.out wr HM.out
    obtain ⟨b, off, eao, hb, hLB⟩ := hdes.1 (by rw [HN.out]; omega)
    obtain ⟨hdi, hds⟩ := hdes.2 d (List.mem_of_getElem? hd)
    obtain ⟨A, hAi, hAn, _, _, hA⟩ := order_mk2 d hdi
    have HMem := hid (List.mem_of_getElem? hd)
    obtain ⟨cs, ecs⟩ : ∃ cs, encD d = cs := ⟨_, rfl⟩
    have HRg : Hid (wr.rangeAt b (off + k * 30) cs) := by unfold Hid; rw [← ecs]; exact LsB.rangeAt hLB hd
    have HLN : Hid (cs.length = 30) := by unfold Hid; rw [← ecs]; rfl
    have H1C : Hid (∀ v ∈ cs, v.oneCell' = true) := by unfold Hid; rw [← ecs]; exact encD_one d
    rw [ecs] at hA
    obtain ⟨g7, eg7⟩ : ∃ g, wr.heap.size = g := ⟨_, rfl⟩
    have HTH : Hid ((wr.alloc (.cells #[.int .i64 0, .int .i64 0, .int .i64 0, .int .i64 0, .int .i64 0, .int .i64 0, .int .i64 0, .int .i64 0, .int .i64 0, .int .i64 0, .int .i64 0, .int .i64 0, .int .i64 0, .int .i64 0, .int .i64 0, .int .i64 0, .int .i64 0, .int .i64 0, .int .i64 0, .int .i64 0, .int .i64 0, .int .i64 0, .int .i64 0, .int .i64 0, .int .i64 0, .int .i64 0, .int .i64 0, .int .i64 0, .int .i64 0, .slice none 0 0] 37)).there g7 0 cs.toArray.size) := by
     unfold Hid; rw [← eg7]; exact there_of (has_new _ _ _) (by rw [List.size_toArray, HLN.out]; decide)
    have HA := hid hA
    have HAi := hid hAi
    have HAn := hid hAn
    have HDs := hid hds
    clear hd hdes hLB hdi hds hAi hAn hA ecs
    cases eao
    go_upto_region 5 with (first
     | refine wpList_load_mid rfl 37 (.tmp 17) rfl b (off + k * 30) rfl cs _ HRg.out Tryz.underlying37 rfl (by rw [HLN.out]; kernel_rfl) ?_
     | refine wpList_store_mid rfl 37 (.tmp 7) (.tmp 18) rfl g7 0 cs.toArray rfl rfl HTH.out (by rw [List.size_toArray, HLN.out]; kernel_rfl) (all_oneCell_toArray H1C.out) ?_)
    obtain ⟨W4, e4⟩ : ∃ V, V = (wr.alloc (.cells #[.int .i64 0, .int .i64 0, .int .i64 0, .int .i64 0, .int .i64 0, .int .i64 0, .int .i64 0, .int .i64 0, .int .i64 0, .int .i64 0, .int .i64 0, .int .i64 0, .int .i64 0, .int .i64 0, .int .i64 0, .int .i64 0, .int .i64 0, .int .i64 0, .int .i64 0, .int .i64 0, .int .i64 0, .int .i64 0, .int .i64 0, .int .i64 0, .int .i64 0, .int .i64 0, .int .i64 0, .int .i64 0, .int .i64 0, .slice none 0 0] 37)).setCells g7 0 cs := ⟨_, rfl⟩
    have k4 : Made wr.heap.size wr W4 := by rw [e4]; exact Made.setCells (Nat.le_of_eq eg7) _ _ ((Made.rfl_ _ _).cells (Nat.le_refl _) _ _)
    have HX4 : Hid (Has W4 g7 37 cs.toArray) := by
     unfold Hid
     have h := (has_new wr 37 #[.int .i64 0, .int .i64 0, .int .i64 0, .int .i64 0, .int .i64 0, .int .i64 0, .int .i64 0, .int .i64 0, .int .i64 0, .int .i64 0, .int .i64 0, .int .i64 0, .int .i64 0, .int .i64 0, .int .i64 0, .int .i64 0, .int .i64 0, .int .i64 0, .int .i64 0, .int .i64 0, .int .i64 0, .int .i64 0, .int .i64 0, .int .i64 0, .int .i64 0, .int .i64 0, .int .i64 0, .int .i64 0, .int .i64 0, .slice none 0 0]).whole (vs := cs.toArray) (by rw [List.size_toArray, HLN.out]; rfl)
     rw [eg7] at h
     rw [e4]
     exact h
    rw [← e4]
    clear e4 eg7 HTH
    have HW4 := hid (own_below (B := 0) HW.out k4.1)
    have HO4 := hid (fun o ho => And.intro ((HO.out o ho).1.kept k4) (HO.out o ho).2)
    have HM4 : Hid (Made w.heap.size w W4) := HM.out.then_ (k4.low HM.out.1.size)
    have HOr := hid (HA.out w.heap.size W4 (Sl.kept HDs.out k4) (fun hn b off s e => by obtain ⟨b', off', e', hp⟩ := (HDw.out d HMem.out).2 hn; rw [e] at e'; cases e'; exact World.block_lt_of_cell? _ _ (hp 0 hn).1))
    clear k4 HW HO HM HA
    go_wp2_with (refine wpList_load_row rfl 37 (.tmp 7) rfl g7 rfl 37 _ (0, 0) _ HX4.out Tryz.underlying37 rfl (by rw [List.size_toArray, HLN.out]; kernel_rfl) ?_)
    refine HOr.out.mono ?_
    rintro e w5 ⟨xv, rfl, hxv, k5⟩
    obtain ⟨xo, xc, exv, hsx, hox, hwx⟩ := hxv
    obtain ⟨xkd, xid, xa, xb, xx, xy, xvx, xvy, xan, xsp, xde, xln, xk, xr, xo0, xn, xc0, xf⟩ := A
    have exv1 : xv = .agg #[.int .i64 xkd, .int .i64 xid, .int .i64 xa, .int .i64 xb, .int .i64 xx, .int .i64 xy, .int .i64 xvx, .int .i64 xvy, .int .i64 xan, .int .i64 xsp, .int .i64 xde, .int .i64 xln, .int .i64 xk, .int .i64 xr, .slice xo xn xc] := exv
    clear exv
    subst exv1
    have HNew : Hid (OrOf l w5 (⟨xkd, xid, xa, xb, xx, xy, xvx, xvy, xan, xsp, xde, xln, xk, xr, xo, xn, xc, xf⟩ : Or)) := ⟨⟨HAi.out.kd, HAi.out.id, HAi.out.a, HAi.out.b, HAi.out.x, HAi.out.y, HAi.out.vx, HAi.out.vy, HAi.out.an, HAi.out.sp, HAi.out.de, HAi.out.ln, HAi.out.k, HAi.out.r, HAi.out.f⟩, HAn.out.imp id (fun h => ⟨d, HMem.out, h⟩), hsx, hox⟩
    have HOffN : Hid (OffO u5 (⟨xkd, xid, xa, xb, xx, xy, xvx, xvy, xan, xsp, xde, xln, xk, xr, xo, xn, xc, xf⟩ : Or)) := fun hn b off s e hb => by
     have h1 := HW4.out.lt b hb.symm
     rcases hwx hn b off s e with h | h
     ·omega
     ·omega
    have HLt5 : Hid (0 < xn → ∀ b off s, xo = some ⟨b, off, s⟩ → b < w5.heap.size) := fun hn b off s e => by
     obtain ⟨b', off', e', hp⟩ := hsx hn
     have e' : xo = some ⟨b', off', none⟩ := e'
     rw [e] at e'
     cases e'
     exact World.block_lt_of_cell? _ _ (hp 0 hn).1
    have HW5 := hid (own_below (B := 0) HW4.out k5.1)
    have HO5 := hid (fun o ho => And.intro ((HO4.out o ho).1.kept k5) (HO4.out o ho).2)
    have HM5 : Hid (Made w.heap.size w w5) := HM4.out.then_ (k5.low HM4.out.1.size)
    clear hsx hox hwx k5 HW4 HO4 HM4 HOr HX4 HAi HAn
    have HOw : Hid ((w5.alloc (.cells #[.int .i64 xkd, .int .i64 xid, .int .i64 xa, .int .i64 xb, .int .i64 xx, .int .i64 xy, .int .i64 xvx, .int .i64 xvy, .int .i64 xan, .int .i64 xsp, .int .i64 xde, .int .i64 xln, .int .i64 xk, .int .i64 xr, .slice xo xn xc] 49)).ownsRow w.heap.size 49 15 u5 k (flatE encO L)) := HW5.out.alloc _
    have HNb : Hid (Has (w5.alloc (.cells #[.int .i64 xkd, .int .i64 xid, .int .i64 xa, .int .i64 xb, .int .i64 xx, .int .i64 xy, .int .i64 xvx, .int .i64 xvy, .int .i64 xan, .int .i64 xsp, .int .i64 xde, .int .i64 xln, .int .i64 xk, .int .i64 xr, .slice xo xn xc] 49)) w5.heap.size 49 #[.int .i64 xkd, .int .i64 xid, .int .i64 xa, .int .i64 xb, .int .i64 xx, .int .i64 xy, .int .i64 xvx, .int .i64 xvy, .int .i64 xan, .int .i64 xsp, .int .i64 xde, .int .i64 xln, .int .i64 xk, .int .i64 xr, .slice xo xn xc]) := has_new _ _ _
    have hs5 := HM5.out.1.size
    go_wp2_with (at_builtin; refine wpList_append_at rfl (.tmp 19) (.tmp 22) 38 rfl w.heap.size 49 iO (.agg #[.int .i64 0, .int .i64 0, .int .i64 0, .int .i64 0, .int .i64 0, .int .i64 0, .int .i64 0, .int .i64 0, .int .i64 0, .int .i64 0, .int .i64 0, .int .i64 0, .int .i64 0, .int .i64 0, .slice none 0 0]) 15 136 Tryz.underlying38 iHi.out iH0.out iH1.out iH2.out rfl (by decide) u5 k (flatE encO L) rfl HOw.out ⟨w5.heap.size, 0, none⟩ 1 1 [.int .i64 xkd, .int .i64 xid, .int .i64 xa, .int .i64 xb, .int .i64 xx, .int .i64 xy, .int .i64 xvx, .int .i64 xvy, .int .i64 xan, .int .i64 xsp, .int .i64 xde, .int .i64 xln, .int .i64 xk, .int .i64 xr, .slice xo xn xc] rfl rfl (has_news HNb.out) (encO_one (⟨xkd, xid, xa, xb, xx, xy, xvx, xvy, xan, xsp, xde, xln, xk, xr, xo, xn, xc, xf⟩ : Or)) (by unfold maxLen; omega) (by omega) (by simp; omega) (by omega) ?_)
    intro v6 w6 hown hbt hnx
    have kb : But (fun b => some b = u5.ownBlock) w5 w6 := (Made.but ((Made.rfl_ w5.heap.size w5).cells (Nat.le_refl _) _ _)).then_ hbt
    have HW6 : Hid (w6.ownsRow w.heap.size 49 15 v6 (k + 1) (flatE encO (L ++ [(⟨xkd, xid, xa, xb, xx, xy, xvx, xvy, xan, xsp, xde, xln, xk, xr, xo, xn, xc, xf⟩ : Or)]))) := by
     unfold Hid
     rw [← flatE_snoc]
     exact hown
    have hnx' : v6.ownBlock = u5.ownBlock ∨ v6.ownBlock = some (w5.heap.size + 1) := by simpa using hnx
    have hmv : ∀ o, OrOf l w5 o → OffO u5 o → OrOf l w6 o ∧ OffO v6 o := fun o h1 h2 => by
     refine ⟨⟨h1.1, h1.2.1, fun hn => ?_, h1.2.2.2⟩, fun hn b off s e hb => ?_⟩
     ·obtain ⟨b, off, e, hp⟩ := h1.2.2.1 hn
      exact ⟨b, off, e, hp.but kb (h2 hn b off none e)⟩
     ·rcases hnx' with h | h
      ·exact h2 hn b off s e (hb.trans h)
      ·obtain ⟨b', off', e', hp⟩ := h1.2.2.1 hn
       rw [e] at e'
       cases e'
       have h3 := World.block_lt_of_cell? _ _ (hp 0 hn).1
       rw [h] at hb
       have h4 := Option.some.inj hb
       have h3 : b < w5.heap.size := h3
       omega
    have HO6 : Hid (∀ o ∈ L ++ [(⟨xkd, xid, xa, xb, xx, xy, xvx, xvy, xan, xsp, xde, xln, xk, xr, xo, xn, xc, xf⟩ : Or)], OrOf l w6 o ∧ OffO v6 o) := fun o ho => by
     rcases List.mem_append.1 ho with ho | ho
     ·exact hmv o (HO5.out o ho).1 (HO5.out o ho).2
     ·rw [List.mem_singleton.1 ho]; exact hmv _ HNew.out HOffN.out
    have HM6 : Hid (Made w.heap.size w w6) := But.made_ HM5.out kb hs5 (fun b hb => (HW5.out.lt b hb.symm).1)
    clear hown hbt hnx hnx' hmv kb
    go_wp2_with fail
    go_roundg (m - (k + 1))
    case measure => omega
    case rel => exact ⟨k + 1, L ++ [(⟨xkd, xid, xa, xb, xx, xy, xvx, xvy, xan, xsp, xde, xln, xk, xr, xo, xn, xc, xf⟩ : Or)], by omega, by go_num, by rw [List.length_append, HLk.out]; rfl, HW6.out, HO6.out, HM6.out⟩
   ·have hkm : k = m := by omega
    go_wp2_with fail
    go_ret
    exact ⟨L, _, rfl, by rw [HLk.out, HEM.out]; exact hkm, by rw [HLk.out]; exact HW.out, HO.out, HM.out⟩
end Go.Proofs.YtgdcphmmehedoaaGreat.Fx
/- Layer 15: the statements' own rights and Like. -/
namespace Go.Proofs.YtgdcphmmehedoaaGreat.Fx
open Go.ChangeShapes Go.WideShapes Go.ChangeAt Go.RowKit
set_option linter.unusedVariables false
theorem llike_c {A B : List Or} {oA oB : Option Addr} {n cA cB : Nat} {w : World} (hA : OrsAt w oA A) (hB : OrsAt w oB B) (hn : A.length = n) (hm : B.length = n) (hE : ∀ (i : Nat) a b, A[i]? = some a → B[i]? = some b → EqO a b) (hmx : n ≤ 1000000) :
  Calls Tryz.prog 12 #[.slice oA n cA, .slice oB n cB] w fun e v => e = .returned (.bool true) ∧ Made w.heap.size w v := by
 have HA := hid hA; have HB := hid hB
 have HN := hid hn; have HM := hid hm
 have HE := hid hE
 clear hA hB hn hm hE
 have hnn : ((n : Int) != (n : Int)) = false := by simp
 go_enter Tryz.func12, Tryz.ntmps12
 go_wp2_with fail
 go_loopg [5, 13] n (fun gg s5 s13 wx => ∃ k : Nat, k + gg = n ∧ s13 = .int .i64 (k : Nat) ∧ Hid (Made w.heap.size w wx))
 case atStart => exact ⟨0, by omega, by first | rfl | trivial, Made.rfl_ _ _⟩
 case round =>
  obtain ⟨k, hk, rfl, HMr⟩ := hrel
  by_cases hlt : k < n
  ·obtain ⟨a, ea⟩ : ∃ a, A[k]? = some a := ⟨_, List.getElem?_eq_getElem (by rw [HN.out]; exact hlt)⟩
   obtain ⟨b, eb⟩ : ∃ b, B[k]? = some b := ⟨_, List.getElem?_eq_getElem (by rw [HM.out]; exact hlt)⟩
   have hA2 := HA.out.kept HMr.out
   have hB2 := HB.out.kept HMr.out
   obtain ⟨ba, offa, rfl, _, hLA⟩ := hA2.1 (by rw [HN.out]; omega)
   obtain ⟨bb, offb, rfl, _, hLB⟩ := hB2.1 (by rw [HM.out]; omega)
   have mA := List.mem_of_getElem? ea
   have mB := List.mem_of_getElem? eb
   obtain ⟨_, ha2, ha3⟩ := hA2.2 a mA
   obtain ⟨_, _, hb3⟩ := hB2.2 b mB
   have HEq := hid (HE.out k a b ea eb)
   have HSm := hid (fun u (q : Made wr.heap.size wr u) => osame_c true a b (w := u) ha2 (Sl.kept ha3 q) (Sl.kept hb3 q) (iff_of_true rfl HEq.out))
   have hca := (hLA k _ ea).o15
   have hcb := (hLB k _ eb).o15
   clear ea eb hA2 hB2 hLA hLB mA mB ha2 ha3 hb3 HEq
   obtain ⟨x0, x1, x2, x3, x4, x5, x6, x7, x8, x9, x10, x11, x12, x13, x14, x15, x16, x17⟩ := a
   obtain ⟨y0, y1, y2, y3, y4, y5, y6, y7, y8, y9, y10, y11, y12, y13, y14, y15, y16, y17⟩ := b
   obtain ⟨a0, a1, a2, a3, a4, a5, a6, a7, a8, a9, a10, a11, a12, a13, a14⟩ := hca
   obtain ⟨b0, b1, b2, b3, b4, b5, b6, b7, b8, b9, b10, b11, b12, b13, b14⟩ := hcb
   simp only [] at a0 b0 a1 b1 a2 b2 a3 b3 a4 b4 a5 b5 a6 b6 a7 b7 a8 b8 a9 b9 a10 b10 a11 b11 a12 b12 a13 b13 a14 b14
   go_upto_region 6 with fail
   refine reg_made (by kernel_rfl) (by kernel_rfl) ?_
   intro T hT f hf
   have p0 := Class.reads hf a0
   have p1 := Class.reads hf a1
   have p2 := Class.reads hf a2
   have p3 := Class.reads hf a3
   have p4 := Class.reads hf a4
   have p5 := Class.reads hf a5
   have p6 := Class.reads hf a6
   have p7 := Class.reads hf a7
   have p8 := Class.reads hf a8
   have p9 := Class.reads hf a9
   have p10 := Class.reads hf a10
   have p11 := Class.reads hf a11
   have p12 := Class.reads hf a12
   have p13 := Class.reads hf a13
   have p14 := Class.reads hf a14
   have q0 := Class.reads hf b0
   have q1 := Class.reads hf b1
   have q2 := Class.reads hf b2
   have q3 := Class.reads hf b3
   have q4 := Class.reads hf b4
   have q5 := Class.reads hf b5
   have q6 := Class.reads hf b6
   have q7 := Class.reads hf b7
   have q8 := Class.reads hf b8
   have q9 := Class.reads hf b9
   have q10 := Class.reads hf b10
   have q11 := Class.reads hf b11
   have q12 := Class.reads hf b12
   have q13 := Class.reads hf b13
   have q14 := Class.reads hf b14
   have HS := hid (fun x => hf.made (x := x) (HSm.out (f x) (hf.1 x)))
   repeat (go_big_quiet_step ((first | (go_at_call 36; with_reducible exact HS.out _) | rfl)))
   refine wpQuiet_nil ?_
   intro w3 h3
   have HM3 := hid (HMr.out.then_ ((hf.here h3).low HMr.out.1.size))
   clear h3 hf
   go_wp2_with fail
   go_roundg (n - (k + 1))
   case measure => omega
   case rel => exact ⟨k + 1, by omega, by go_num, HM3.out⟩
  ·go_wp2_with fail
   go_ret
   exact ⟨rfl, HMr.out⟩
theorem lrights_c {l : List De} {ao : Option Addr} {n c : Nat} {w : World} (hn : l.length = n) (hD : DesAt w ao l) (hnc : n ≤ c) (hcm : c ≤ maxLen) (ho : (ao = none ∧ n = 0 ∧ c = 0) ∨ ∃ a, ao = some a) (h12 : ∀ d ∈ l, d.rn ≤ 12) :
  Calls Tryz.prog 8 #[.slice ao n c] w fun e v => ∃ oR cR R, e = .returned (.slice oR (List.length R) cR) ∧ OrsAt v oR R ∧ (∀ o ∈ R, OrderP o) ∧ R.length ≤ 20 ∧ Made w.heap.size w v := by
 have HC := hid (orders_c 20 (by omega) hn hD hnc hcm ho)
 have H12 := hid h12
 obtain ⟨iO, hiO, hz0, hz1, hz2⟩ := info_parts infoO
 have iHi := hid hiO; have iH0 := hid hz0; have iH1 := hid hz1; have iH2 := hid hz2
 clear hn hD hnc hcm ho h12 hiO hz0 hz1 hz2
 go_enter Tryz.func8, Tryz.ntmps8
 go_wp2_with fail
 refine HC.out.mono ?_
 rintro e w1 ⟨L, x0, rfl, hL20, hrow, hOs, hM⟩
 obtain ⟨oL, cL, rfl, _, hLs, _⟩ := LsT.of_own (enc := encO) (k := 15) (l := L) (fun _ => rfl) hrow
 have HM1 := hid hM
 have HLs : Hid (OrsAt w1 oL L) := ⟨hLs, fun o ho => by
  obtain ⟨h1, h2, h3, _⟩ := (hOs o ho).1
  refine ⟨h1, ?_, h3⟩
  rcases h2 with h2 | ⟨d, hd, h2⟩
  ·omega
  ·have := H12.out d hd; omega⟩
 have h20 : L.length ≤ 20 := by omega
 obtain ⟨N, eN⟩ : ∃ N, L.length = N := ⟨_, rfl⟩
 rw [eN] at h20
 rw [eN]
 have HN := hid eN
 obtain ⟨g0, eg0⟩ : ∃ g, w1.heap.size = g := ⟨_, rfl⟩
 have HG0 := hid eg0
 clear hL20 hrow hOs hM hLs eN eg0
 go_wp2_with fail
 go_loopg [3, 9] N (fun gg s3 s9 wx => ∃ (k : Nat) (R : List Or), k + gg = N ∧ R.length ≤ k ∧ s9 = .int .i64 (k : Nat) ∧ Hid (wx.ownsRow g0 49 15 s3 R.length (flatE encO R)) ∧ Hid (∀ o ∈ R, o ∈ L ∧ OrderP o) ∧ Hid (Made w1.heap.size w1 wx))
 case atStart => exact ⟨0, [], by omega, Nat.le_refl _, by first | rfl | trivial, World.ownsRow_nil _ _ _ _, fun o ho => (by cases ho), Made.rfl_ _ _⟩
 case round =>
  obtain ⟨k, R, hk, hRk, rfl, HW, HR, HM⟩ := hrel
  by_cases hlt : k < N
  ·obtain ⟨a, ea⟩ : ∃ a, L[k]? = some a := ⟨_, List.getElem?_eq_getElem (by rw [HN.out]; exact hlt)⟩
   have hor := HLs.out.kept HM.out
   obtain ⟨b, off, rfl, hbl, hLB⟩ := hor.1 (by rw [HN.out]; omega)
   have hmem := List.mem_of_getElem? ea
   have HMem := hid hmem
   obtain ⟨hi, hmx, hs⟩ := hor.2 a hmem
   obtain ⟨q, hq⟩ := a_bool (OrderP a)
   have HRi := hid (fun u (k : Made wr.heap.size wr u) => oright_c q a (w := u) hmx hi (Sl.kept hs k) hq)
   have HQ := hid hq
   have hcells := (hLB k _ ea).o15
   obtain ⟨kR, ekR⟩ : ∃ z, R.length = z := ⟨_, rfl⟩
   rw [ekR] at HW hRk
   have EKR := hid ekR
   clear ea hLB hor hmem hi hs hmx hq ekR
   obtain ⟨x0, x1, x2, x3, x4, x5, x6, x7, x8, x9, x10, x11, x12, x13, x14, x15, x16, x17⟩ := a
   obtain ⟨a0, a1, a2, a3, a4, a5, a6, a7, a8, a9, a10, a11, a12, a13, a14⟩ := hcells
   simp only [] at a0 a1 a2 a3 a4 a5 a6 a7 a8 a9 a10 a11 a12 a13 a14
   obtain ⟨W, eW⟩ : ∃ W, W = wr.alloc (.cells #[.int .i64 x0, .int .i64 x1, .int .i64 x2, .int .i64 x3, .int .i64 x4, .int .i64 x5, .int .i64 x6, .int .i64 x7, .int .i64 x8, .int .i64 x9, .int .i64 x10, .int .i64 x11, .int .i64 x12, .int .i64 x13, .slice x14 x15 x16] 49) := ⟨_, rfl⟩
   have KW : Hid (Made wr.heap.size wr W) := by unfold Hid; rw [eW]; exact (Made.rfl_ _ _).cells (Nat.le_refl _) _ _
   obtain ⟨g1, eg1⟩ : ∃ g, wr.heap.size = g := ⟨_, rfl⟩
   have HB : Hid (Has W g1 49 #[.int .i64 x0, .int .i64 x1, .int .i64 x2, .int .i64 x3, .int .i64 x4, .int .i64 x5, .int .i64 x6, .int .i64 x7, .int .i64 x8, .int .i64 x9, .int .i64 x10, .int .i64 x11, .int .i64 x12, .int .i64 x13, .slice x14 x15 x16]) := by unfold Hid; rw [eW, ← eg1]; exact has_new _ _ _
   have b0 : W.cell? ⟨g1, 0, none⟩ = some (.int .i64 x0) := HB.out.at_ 0
   have b1 : W.cell? ⟨g1, 1, none⟩ = some (.int .i64 x1) := HB.out.at_ 1
   have b2 : W.cell? ⟨g1, 2, none⟩ = some (.int .i64 x2) := HB.out.at_ 2
   have b3 : W.cell? ⟨g1, 3, none⟩ = some (.int .i64 x3) := HB.out.at_ 3
   have b4 : W.cell? ⟨g1, 4, none⟩ = some (.int .i64 x4) := HB.out.at_ 4
   have b5 : W.cell? ⟨g1, 5, none⟩ = some (.int .i64 x5) := HB.out.at_ 5
   have b6 : W.cell? ⟨g1, 6, none⟩ = some (.int .i64 x6) := HB.out.at_ 6
   have b7 : W.cell? ⟨g1, 7, none⟩ = some (.int .i64 x7) := HB.out.at_ 7
   have b8 : W.cell? ⟨g1, 8, none⟩ = some (.int .i64 x8) := HB.out.at_ 8
   have b9 : W.cell? ⟨g1, 9, none⟩ = some (.int .i64 x9) := HB.out.at_ 9
   have b10 : W.cell? ⟨g1, 10, none⟩ = some (.int .i64 x10) := HB.out.at_ 10
   have b11 : W.cell? ⟨g1, 11, none⟩ = some (.int .i64 x11) := HB.out.at_ 11
   have b12 : W.cell? ⟨g1, 12, none⟩ = some (.int .i64 x12) := HB.out.at_ 12
   have b13 : W.cell? ⟨g1, 13, none⟩ = some (.int .i64 x13) := HB.out.at_ 13
   have b14 : W.cell? ⟨g1, 14, none⟩ = some (.slice x14 x15 x16) := HB.out.at_ 14
   have HRw := hid (HRi.out W KW.out)
   go_upto_region 5 with fail
   rw [← eW]
   clear eW
   try rw [eg1]
   clear eg1
   go_wp2_with fail
   refine HRw.out.mono ?_
   rintro e w4 ⟨rfl, hM4⟩
   have HB4 := hid (HB.out.stays hM4 HB.out.here)
   have HM4 : Hid (Made w1.heap.size w1 w4) := HM.out.then_ ((KW.out.then_ (hM4.low KW.out.1.size)).low HM.out.1.size)
   have HW4 := hid (own_below (B := 0) (own_below (B := 0) HW.out KW.out.1) hM4.1)
   clear hM4 b0 b1 b2 b3 b4 b5 b6 b7 b8 b9 b10 b11 b12 b13 b14 a0 a1 a2 a3 a4 a5 a6 a7 a8 a9 a10 a11 a12 a13 a14
   cases q with
   | false =>
    go_wp2_with fail
    go_roundg (N - (k + 1))
    case measure => omega
    case rel => exact ⟨k + 1, R, by omega, by rw [EKR.out]; omega, by go_num, by rw [EKR.out]; exact HW4.out, HR.out, HM4.out⟩
   | true =>
    have HPx : Hid (OrderP (⟨x0, x1, x2, x3, x4, x5, x6, x7, x8, x9, x10, x11, x12, x13, x14, x15, x16, x17⟩ : Or)) := HQ.out.1 rfl
    have c0 : w4.cell? ⟨g1, 0, none⟩ = some (.int .i64 x0) := HB4.out.at_ 0
    have c1 : w4.cell? ⟨g1, 1, none⟩ = some (.int .i64 x1) := HB4.out.at_ 1
    have c2 : w4.cell? ⟨g1, 2, none⟩ = some (.int .i64 x2) := HB4.out.at_ 2
    have c3 : w4.cell? ⟨g1, 3, none⟩ = some (.int .i64 x3) := HB4.out.at_ 3
    have c4 : w4.cell? ⟨g1, 4, none⟩ = some (.int .i64 x4) := HB4.out.at_ 4
    have c5 : w4.cell? ⟨g1, 5, none⟩ = some (.int .i64 x5) := HB4.out.at_ 5
    have c6 : w4.cell? ⟨g1, 6, none⟩ = some (.int .i64 x6) := HB4.out.at_ 6
    have c7 : w4.cell? ⟨g1, 7, none⟩ = some (.int .i64 x7) := HB4.out.at_ 7
    have c8 : w4.cell? ⟨g1, 8, none⟩ = some (.int .i64 x8) := HB4.out.at_ 8
    have c9 : w4.cell? ⟨g1, 9, none⟩ = some (.int .i64 x9) := HB4.out.at_ 9
    have c10 : w4.cell? ⟨g1, 10, none⟩ = some (.int .i64 x10) := HB4.out.at_ 10
    have c11 : w4.cell? ⟨g1, 11, none⟩ = some (.int .i64 x11) := HB4.out.at_ 11
    have c12 : w4.cell? ⟨g1, 12, none⟩ = some (.int .i64 x12) := HB4.out.at_ 12
    have c13 : w4.cell? ⟨g1, 13, none⟩ = some (.int .i64 x13) := HB4.out.at_ 13
    have c14 : w4.cell? ⟨g1, 14, none⟩ = some (.slice x14 x15 x16) := HB4.out.at_ 14
    have HOw : Hid ((w4.alloc (.cells #[.int .i64 x0, .int .i64 x1, .int .i64 x2, .int .i64 x3, .int .i64 x4, .int .i64 x5, .int .i64 x6, .int .i64 x7, .int .i64 x8, .int .i64 x9, .int .i64 x10, .int .i64 x11, .int .i64 x12, .int .i64 x13, .slice x14 x15 x16] 49)).ownsRow g0 49 15 u3 kR (flatE encO R)) := HW4.out.alloc _
    have HNb : Hid (Has (w4.alloc (.cells #[.int .i64 x0, .int .i64 x1, .int .i64 x2, .int .i64 x3, .int .i64 x4, .int .i64 x5, .int .i64 x6, .int .i64 x7, .int .i64 x8, .int .i64 x9, .int .i64 x10, .int .i64 x11, .int .i64 x12, .int .i64 x13, .slice x14 x15 x16] 49)) w4.heap.size 49 #[.int .i64 x0, .int .i64 x1, .int .i64 x2, .int .i64 x3, .int .i64 x4, .int .i64 x5, .int .i64 x6, .int .i64 x7, .int .i64 x8, .int .i64 x9, .int .i64 x10, .int .i64 x11, .int .i64 x12, .int .i64 x13, .slice x14 x15 x16]) := has_new _ _ _
    have hz3 : g0 ≤ (w4.alloc (.cells #[.int .i64 x0, .int .i64 x1, .int .i64 x2, .int .i64 x3, .int .i64 x4, .int .i64 x5, .int .i64 x6, .int .i64 x7, .int .i64 x8, .int .i64 x9, .int .i64 x10, .int .i64 x11, .int .i64 x12, .int .i64 x13, .slice x14 x15 x16] 49)).heap.size := by have := HG0.out; have := HM4.out.1.size; simp; omega
    go_wp2_with (at_builtin; refine wpList_append_at rfl (.tmp 15) (.tmp 17) 38 rfl g0 49 iO (.agg #[.int .i64 0, .int .i64 0, .int .i64 0, .int .i64 0, .int .i64 0, .int .i64 0, .int .i64 0, .int .i64 0, .int .i64 0, .int .i64 0, .int .i64 0, .int .i64 0, .int .i64 0, .int .i64 0, .slice none 0 0]) 15 136 Tryz.underlying38 iHi.out iH0.out iH1.out iH2.out rfl (by decide) u3 kR (flatE encO R) rfl HOw.out ⟨w4.heap.size, 0, none⟩ 1 1 [.int .i64 x0, .int .i64 x1, .int .i64 x2, .int .i64 x3, .int .i64 x4, .int .i64 x5, .int .i64 x6, .int .i64 x7, .int .i64 x8, .int .i64 x9, .int .i64 x10, .int .i64 x11, .int .i64 x12, .int .i64 x13, .slice x14 x15 x16] rfl rfl (has_news HNb.out) (encO_oneQ (⟨x0, x1, x2, x3, x4, x5, x6, x7, x8, x9, x10, x11, x12, x13, x14, x15, x16, x17⟩ : Or)) (by unfold maxLen; omega) (by omega) hz3 (by omega) ?_)
    intro v6 w6 hown hbt hnx
    have kb : But (fun b => some b = u3.ownBlock) w4 w6 := (Made.but ((Made.rfl_ w4.heap.size w4).cells (Nat.le_refl _) _ _)).then_ hbt
    have HW6 : Hid (w6.ownsRow g0 49 15 v6 (kR + 1) (flatE encO (R ++ [(⟨x0, x1, x2, x3, x4, x5, x6, x7, x8, x9, x10, x11, x12, x13, x14, x15, x16, x17⟩ : Or)]))) := by
     unfold Hid
     rw [← flatE_snoc]
     exact hown
    have HM6 : Hid (Made w1.heap.size w1 w6) := But.made_ HM4.out kb HM4.out.1.size (fun b hb => by have := (HW4.out.lt b hb.symm).1; have := HG0.out; omega)
    have HR6 : Hid (∀ o ∈ R ++ [(⟨x0, x1, x2, x3, x4, x5, x6, x7, x8, x9, x10, x11, x12, x13, x14, x15, x16, x17⟩ : Or)], o ∈ L ∧ OrderP o) := fun o ho => by
     rcases List.mem_append.1 ho with ho | ho
     ·exact HR.out o ho
     ·rw [List.mem_singleton.1 ho]; exact ⟨HMem.out, HPx.out⟩
    clear hown hbt hnx kb c0 c1 c2 c3 c4 c5 c6 c7 c8 c9 c10 c11 c12 c13 c14
    go_wp2_with fail
    go_roundg (N - (k + 1))
    case measure => omega
    case rel => exact ⟨k + 1, R ++ [(⟨x0, x1, x2, x3, x4, x5, x6, x7, x8, x9, x10, x11, x12, x13, x14, x15, x16, x17⟩ : Or)], by omega, by rw [List.length_append, EKR.out]; simp; omega, by go_num, by rw [List.length_append, EKR.out]; exact HW6.out, HR6.out, HM6.out⟩
  ·have e : k = N := by omega
   go_wp2_with fail
   obtain ⟨oR, cR, e3, _, hls, _⟩ := LsT.of_own (enc := encO) (k := 15) (l := R) (fun _ => rfl) HW.out
   subst e3
   go_ret
   refine ⟨oR, cR, R, rfl, ⟨hls, fun o ho => ?_⟩, fun o ho => (HR.out o ho).2, by omega, HM1.out.then_ (HM.out.low HM1.out.1.size)⟩
   exact (HLs.out.kept HM.out).2 o (HR.out o ho).1
end Go.Proofs.YtgdcphmmehedoaaGreat.Fx
/- Layer 15: CodecBatches. -/
namespace Go.Proofs.YtgdcphmmehedoaaGreat.Fx
open Go.ChangeShapes Go.WideShapes Go.ChangeAt Go.RowKit
set_option linter.unusedVariables false
theorem rightP_congr {K R : Int} {n : Nat} {f g : Cs} (h : RightP K R n f) (e : ∀ i, i < n → f i = g i) : RightP K R n g := by
 rcases h with h | ⟨h1, h2, h3, h4, h5, h6⟩
 ·exact .inl h
 ·refine .inr ⟨h1, h2, h3, h4, fun i hi => by rw [← e i hi]; exact h5 i hi, fun i hi j hj h7 h8 => ?_⟩
  have h9 := h6 i hi j hj h7 h8
  have hm : (i + 1) % n < n := Nat.mod_lt _ (by omega)
  unfold crossF at h9 ⊢
  rw [← e i hi, ← e j hj, ← e _ hm]
  exact h9
theorem orderP_nrm {o : Or} (h : OrderP o) : OrderP (nrm o) := by
 rcases h with ⟨h1, h2, h3, h4, h5, hB⟩ | h | h | h | h
 ·exact .inl ⟨h1, h2, h3, h4, h5, ⟨rightP_congr hB.shape (fun i hi => (gP_ptsL _ _ i hi).symm), hB.x, hB.y, hB.vx, hB.vy, hB.sp, hB.an, hB.de, hB.still⟩⟩
 ·exact .inr (.inl h)
 ·exact .inr (.inr (.inl ⟨h.1, h.2.1, h.2.2.1, h.2.2.2.1, ⟨h.2.2.2.2.ax, h.2.2.2.2.ay, h.2.2.2.2.tx, h.2.2.2.2.ty, h.2.2.2.2.ln, h.2.2.2.2.a, h.2.2.2.2.b, h.2.2.2.2.ab⟩⟩))
 ·exact .inr (.inr (.inr (.inl h)))
 ·exact .inr (.inr (.inr (.inr h)))
theorem shB_lt {k r : Int} {n : Nat} {f : Cs} : ∀ b ∈ shB k r n f, b < 256 := by
 intro b hb
 unfold shB at hb
 rcases List.mem_append.1 hb with h | h
 ·exact nb_lt h
 ·split at h
  ·exact nb_lt h
  ·split at h
   ·rcases List.mem_append.1 h with h | h
    ·exact nb_lt h
    ·unfold vB at h
     obtain ⟨i, _, h⟩ := List.mem_flatMap.1 h
     rcases List.mem_append.1 h with h | h <;> exact nb_lt h
   ·cases h
theorem orB_lt (o : Or) : ∀ b ∈ orB o, b < 256 := by
 intro b hb
 unfold orB at hb
 repeat' split at hb
 all_goals (simp only [List.mem_append, List.not_mem_nil, or_false] at hb)
 ·rcases hb with h | (((h | h) | (h | h)) | ((h | h) | h)) | h
  all_goals first | exact nb_lt h | exact shB_lt _ h
 ·rcases hb with h | h <;> exact nb_lt h
 ·rcases hb with h | ((h | h) | ((h | h) | (h | h))) | h <;> exact nb_lt h
 ·rcases hb with h | (h | (h | h)) | h <;> exact nb_lt h
 ·rcases hb with h | (h | h) <;> exact nb_lt h
 ·exact nb_lt hb
theorem batB_lt (L : List Or) : ∀ b ∈ batB L, b < 256 := by
 intro b hb
 unfold batB at hb
 rcases List.mem_append.1 hb with h | h
 ·exact nb_lt h
 ·obtain ⟨o, _, h⟩ := List.mem_flatMap.1 h
  exact orB_lt o b h
theorem codecbatches_walk (l : List De) (lo : Option Addr) (nl cl : Nat) (w : World) (hnl : l.length = nl) (hDl : DesAt w lo l) (hcl : nl ≤ cl) (hml : cl ≤ maxLen) (hol : (lo = none ∧ nl = 0 ∧ cl = 0) ∨ ∃ a, lo = some a) :
  Calls Tryz.prog 3 #[.slice lo nl cl] w fun e v => e = .returned (.bool true) ∧ Made w.heap.size w v := by
 have HOr := hid (fun v (k : Made w.heap.size w v) h12 => lrights_c (w := v) hnl (hDl.kept k) hcl hml hol h12)
 have HDm := hid (fun v (k : Made w.heap.size w v) => hDl.kept k)
 have HNm := hid hnl
 have hbn := Nat.le_trans hcl hml
 unfold maxLen at hbn
 clear hnl hDl hcl hml hol
 go_enter Tryz.func3, Tryz.ntmps3
 go_wp2_with fail
 refine fit15_c.mono ?_
 rintro e w1 ⟨rfl, k1⟩
 have K1 := hid k1
 clear k1
 go_wp2_with fail
 go_loopg [4, 13] nl (fun gg s4 s13 wx => ∃ k : Nat, k + gg = nl ∧ s13 = .int .i64 (k : Nat) ∧ Hid ((∀ i d, i < k → l[i]? = some d → d.rn ≤ 12) ∧ Made w.heap.size w wx))
 case atStart => exact ⟨0, by omega, by first | rfl | trivial, fun i d hi => by omega, K1.out⟩
 case round =>
  obtain ⟨k, hk, rfl, HH⟩ := hrel
  have H12 := hid HH.out.1
  have HM := hid HH.out.2
  clear HH
  by_cases hkm : k < nl
  ·obtain ⟨d, hd⟩ : ∃ d, l[k]? = some d := ⟨_, List.getElem?_eq_getElem (by rw [HNm.out]; exact hkm)⟩
   have hdes := HDm.out wr HM.out
   obtain ⟨b, off, eao, hb, hLB⟩ := hdes.1 (by rw [HNm.out]; omega)
   have HGet := hid hd
   obtain ⟨cs, ecs⟩ : ∃ cs, encD d = cs := ⟨_, rfl⟩
   have HRg : Hid (wr.rangeAt b (off + k * 30) cs) := by unfold Hid; rw [← ecs]; exact LsB.rangeAt hLB hd
   have HLN : Hid (cs.length = 30) := by unfold Hid; rw [← ecs]; rfl
   have H1C : Hid (∀ v ∈ cs, v.oneCell' = true) := by unfold Hid; rw [← ecs]; exact encD_one d
   have H29 : Hid (cs.toArray[29]? = some (.slice d.rao d.rn d.rc)) := by unfold Hid; rw [← ecs]; rfl
   obtain ⟨g8, eg8⟩ : ∃ g, wr.heap.size = g := ⟨_, rfl⟩
   have HTH : Hid ((wr.alloc (.cells #[.int .i64 0, .int .i64 0, .int .i64 0, .int .i64 0, .int .i64 0, .int .i64 0, .int .i64 0, .int .i64 0, .int .i64 0, .int .i64 0, .int .i64 0, .int .i64 0, .int .i64 0, .int .i64 0, .int .i64 0, .int .i64 0, .int .i64 0, .int .i64 0, .int .i64 0, .int .i64 0, .int .i64 0, .int .i64 0, .int .i64 0, .int .i64 0, .int .i64 0, .int .i64 0, .int .i64 0, .int .i64 0, .int .i64 0, .slice none 0 0] 37)).there g8 0 cs.toArray.size) := by
    unfold Hid; rw [← eg8]; exact there_of (has_new _ _ _) (by rw [List.size_toArray, HLN.out]; decide)
   clear hd hdes hLB ecs
   cases eao
   go_upto_region 6 with (first
    | refine wpList_load_mid rfl 37 (.tmp 15) rfl b (off + k * 30) rfl cs _ HRg.out Tryz.underlying37 rfl (by rw [HLN.out]; kernel_rfl) ?_
    | refine wpList_store_mid rfl 37 (.tmp 4) (.tmp 16) rfl g8 0 cs.toArray rfl rfl HTH.out (by rw [List.size_toArray, HLN.out]; kernel_rfl) (all_oneCell_toArray H1C.out) ?_)
   obtain ⟨W4, e4⟩ : ∃ V, V = (wr.alloc (.cells #[.int .i64 0, .int .i64 0, .int .i64 0, .int .i64 0, .int .i64 0, .int .i64 0, .int .i64 0, .int .i64 0, .int .i64 0, .int .i64 0, .int .i64 0, .int .i64 0, .int .i64 0, .int .i64 0, .int .i64 0, .int .i64 0, .int .i64 0, .int .i64 0, .int .i64 0, .int .i64 0, .int .i64 0, .int .i64 0, .int .i64 0, .int .i64 0, .int .i64 0, .int .i64 0, .int .i64 0, .int .i64 0, .int .i64 0, .slice none 0 0] 37)).setCells g8 0 cs := ⟨_, rfl⟩
   have k4 : Made wr.heap.size wr W4 := by rw [e4]; exact Made.setCells (Nat.le_of_eq eg8) _ _ ((Made.rfl_ _ _).cells (Nat.le_refl _) _ _)
   have HX4 : Has W4 g8 37 cs.toArray := by
    have h := (has_new wr 37 #[.int .i64 0, .int .i64 0, .int .i64 0, .int .i64 0, .int .i64 0, .int .i64 0, .int .i64 0, .int .i64 0, .int .i64 0, .int .i64 0, .int .i64 0, .int .i64 0, .int .i64 0, .int .i64 0, .int .i64 0, .int .i64 0, .int .i64 0, .int .i64 0, .int .i64 0, .int .i64 0, .int .i64 0, .int .i64 0, .int .i64 0, .int .i64 0, .int .i64 0, .int .i64 0, .int .i64 0, .int .i64 0, .int .i64 0, .slice none 0 0]).whole (vs := cs.toArray) (by rw [List.size_toArray, HLN.out]; rfl)
    rw [eg8] at h
    rw [e4]
    exact h
   have c29 : W4.cell? ⟨g8, 29, none⟩ = some (.slice d.rao d.rn d.rc) := by rw [HX4.at_]; exact H29.out
   have l8 : g8 < W4.heap.size := HX4.here
   have HM4 : Hid (Made w.heap.size w W4) := HM.out.then_ (k4.low HM.out.1.size)
   rw [← e4]
   clear e4 eg8 HTH k4 HX4
   by_cases h12 : 12 < d.rn
   ·go_wp2_with fail
    go_ret
    exact ⟨rfl, HM4.out⟩
   ·have HL12 : Hid (d.rn ≤ 12) := by unfold Hid; omega
    go_wp2_with fail
    go_roundg (nl - (k + 1))
    case measure => omega
    case rel =>
     refine ⟨k + 1, by omega, by go_num, fun i d' hi hd' => ?_, HM4.out⟩
     by_cases hik : i = k
     ·subst hik
      have := Option.some.inj (hd'.symm.trans HGet.out)
      rw [this]; exact HL12.out
     ·exact H12.out i d' (by omega) hd'
  ·have HAll : Hid (∀ d ∈ l, d.rn ≤ 12) := fun d hd => by
    obtain ⟨i, hi⟩ := List.mem_iff_getElem?.1 hd
    have h1 := (List.getElem?_eq_some_iff.1 hi).1
    have h2 := HNm.out
    exact H12.out i d (by omega) hi
   clear H12 HDm K1
   have HRg := hid (HOr.out wr HM.out HAll.out)
   go_wp2_with fail
   refine HRg.out.mono ?_
   rintro e w10 ⟨oR, cR, R, rfl, hR, hP, h20, k10⟩
   have K10 := hid (HM.out.then_ (k10.low HM.out.1.size))
   have HR10 := hid hR
   have HPR := hid hP
   obtain ⟨q, eq⟩ : ∃ q, R.length = q := ⟨_, rfl⟩
   rw [eq] at h20
   rw [eq]
   have EQ := hid eq
   have H255 : Hid (∀ o ∈ R, o.n ≤ 255) := fun o ho => Nat.le_trans (orderP_n (HPR.out o ho)) (by omega)
   have HBa := hid (cbatch_c (c := cR) HR10.out EQ.out (by omega) H255.out)
   clear hR hP k10 eq HOr
   go_wp2_with fail
   refine HBa.out.mono ?_
   rintro e w11 ⟨ob, m, cb, rfl, hm, hm3, _, hO, k11⟩
   have K11 := hid (K10.out.then_ (k11.low K10.out.1.size))
   have HR11 := hid (HR10.out.kept k11)
   have HB11 := hid hO.by_
   have HMl := hid hm
   have HRB := hid (creadbatch_c (c := cb) HB11.out hm (batB_lt R) (by omega))
   clear hm hm3 hO k11
   go_wp2_with fail
   refine HRB.out.mono ?_
   rintro e w12 ⟨x, er, rfl, k12, hcs⟩
   have K12 := hid (K11.out.then_ (k12.low K11.out.1.size))
   have HR12 := hid (HR11.out.kept k12)
   have HB12 := hid (HB11.out.kept k12)
   have hbat := bat_of HPR.out (fun o ho => (HR12.out.2 o ho).1) (by rw [EQ.out]; omega)
   rcases hcs with ⟨hok, rfl, ao', c', L, rfl, hL, hmap⟩ | ⟨hno, _, _⟩
   case inr =>
    refine absurd ⟨by rw [hbat], fun o ho => ?_⟩ hno
    rw [hbat] at ho
    obtain ⟨o', ho', rfl⟩ := List.mem_map.1 ho
    exact orderP_nrm (HPR.out o' ho')
   rw [hbat] at hmap
   have HMap : Hid (L.map bare = R.map nrm) := hmap
   have hll : L.length = q := by rw [← List.length_map (f := bare), hmap, List.length_map, EQ.out]
   have HLL := hid hll
   rw [hll]
   have HL12' := hid hL
   have HEq : Hid (∀ (i : Nat) a b, R[i]? = some a → L[i]? = some b → EqO a b) := fun i a b ha hb => by
    have h1 : (L.map bare)[i]? = some (bare b) := by rw [List.getElem?_map, hb]; rfl
    rw [HMap.out, List.getElem?_map, ha] at h1
    have h2 : nrm a = bare b := Option.some.inj h1
    have h3 := nrm_eq a
    rw [h2] at h3
    exact h3
   obtain ⟨XS, eXS⟩ : ∃ X, strB (gl (batB R)) m = X := ⟨_, rfl⟩
   have EXS := hid eXS
   clear hbat hok hmap hll hL eXS k12
   go_upto_region 12 with fail
   refine reg_made (by kernel_rfl) (by kernel_rfl) ?_
   intro T hT f hf
   have hjj : (XS.toList == XS.toList) = true := by simp
   have hq5 : ∀ x, (convert 40 9 (.slice ob m cb)).run Tryz.prog (f x) = .ok (.string XS) (f x) := fun x => by
    rw [← EXS.out]
    exact conv_by (HB12.out.kept (hf.1 x))
   have HBt := hid (fun x => hf.made (x := x) (v := .string XS) (by
    have h := lbatch_c (cL := cR) (HR12.out.kept (hf.1 x)) HPR.out EQ.out (by omega)
    rw [HMl.out, EXS.out] at h
    exact h))
   have HLk := hid (fun x => hf.made (x := x) (llike_c (cA := cR) (cB := c') (HR12.out.kept (hf.1 x)) (HL12'.out.kept (hf.1 x)) EQ.out HLL.out HEq.out (by omega)))
   repeat (go_big_quiet_step ((first
    | (go_at_call 11; with_reducible exact HBt.out _)
    | (go_at_call 12; with_reducible exact HLk.out _)
    | rfl)))
   refine wpQuiet_nil ?_
   intro w13 h13
   have K13 := hid (K12.out.then_ ((hf.here h13).low K12.out.1.size))
   clear h13 hf
   go_wp2_with fail
   go_ret
   exact ⟨rfl, K13.out⟩
end Go.Proofs.YtgdcphmmehedoaaGreat.Fx
/- What a slice of vectors that came in holds. -/
namespace Go.Proofs.YtgdcphmmehedoaaGreat.Fx
open Go.ChangeShapes Go.WideShapes Go.ChangeAt Go.RowKit Go.Deep
set_option linter.unusedVariables false
section
variable {H : Type} {enc : TypeId × Value → H} {w : World} {base : Nat} {spare : Nat → Bool} {held : Bool}
theorem open_pts {fuel : Nat} {v : Value} {y : DataW H × List MemPlace} (h : DataW.trod enc Tryz.prog w base spare held fuel 31 [v] = some y) :
  ∃ ao len cap f, v = .slice ao len cap ∧ Sl w ao len f ∧ Cin f len := by
 rcases open_slice_pairs Tryz.underlying31 Tryz.underlying28 (by kernel_rfl) rfl rfl (by kernel_rfl) (by kernel_rfl) h with ⟨hcs, _⟩ | ⟨a, len, cap, m, n, V0, V1, D0, D1, P0, P1, hcs, _, _, _, hm, _, hf⟩
 ·simp at hcs
  exact ⟨none, 0, 0, fun _ => (0, 0), hcs, fun h => absurd h (by omega), fun i hi => absurd hi (by omega)⟩
 ·simp at hcs
  have hlm : len ≤ m := by rw [hm]; split <;> omega
  obtain ⟨f, hc⟩ := choose_lt (α := Int × Int) (n := len) (p := fun i x => (w.cell? (a.add (i * 2)) = some (.int .i64 x.1) ∧ w.cell? (a.add (i * 2 + 1)) = some (.int .i64 x.2)) ∧ I64 x.1 ∧ I64 x.2) (fun i hi => by
   obtain ⟨c0, c1, t0, t1⟩ := hf i (by omega)
   obtain ⟨x, ex, _, wx⟩ := DataW.trod_int Tryz.underlying26 t0
   obtain ⟨z, ez, _, wz⟩ := DataW.trod_int Tryz.underlying26 t1
   simp at ex ez
   rw [ex] at c0
   rw [ez] at c1
   exact ⟨(x, z), ⟨c0, c1⟩, I64_wf wx, I64_wf wz⟩)
  refine ⟨some a, len, cap, f, hcs, fun h0 => ?_, fun i hi => (hc i hi).2⟩
  obtain ⟨b, off, spot⟩ := a
  have hspot : spot = none := by simpa [Addr.add] using World.cell?_spot (hc 0 h0).1.1
  subst hspot
  refine ⟨b, off, rfl, fun i hi => ?_⟩
  have := (hc i hi).1
  rw [Addr.add_lit, Addr.add_lit] at this
  exact ⟨this.1, by rw [Nat.add_assoc]; exact this.2⟩
end
end Go.Proofs.YtgdcphmmehedoaaGreat.Fx