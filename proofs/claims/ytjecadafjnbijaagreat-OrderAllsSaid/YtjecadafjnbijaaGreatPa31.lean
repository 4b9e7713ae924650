/- OtV -/
import Derived.Test.YtjecadafjnbijaaGreatPa27
import Derived.Test.YtjecadafjnbijaaGreatPa29
import Derived.Test.YtjecadafjnbijaaGreatPa30
set_option maxRecDepth 100000
set_option maxHeartbeats 64000000
/- OrderAlls. -/
namespace Go.Proofs.YtjecadafjnbijaaGreat.Fx
open Go.ChangeShapes Go.WideShapes Go.ChangeAt Go.RowKit
set_option linter.unusedVariables false
theorem wpList_load_row_g {P : Program} {ops : Array Oper} {rest : List Oper} {o : Oper} {a : Act} {w : World} {Q : Exit → Act → World → Prop} (hw : Region.wanted o (yielded ops a.tmps) = true) (ty : TypeId) (x : Operand) (ho : o.op = .load ty x)
  (g : Nat) (hx : a.eval x = .pointer (some ⟨g, 0, none⟩)) (t : TypeId) (cs : Array Value) (fr : Nat × Nat) (d : TypeDesc) (hg : w.heap[g]? = some (.cells cs t fr))
  (hu : P.underlying ty = some d) (hd : (match d with | .struct _ | .array _ _ => true | _ => false) = true) (hi : (P.info? ty).map (·.size) = some cs.size)
  (h : wpList P ops Q rest (a.put o.dst (.agg cs)) w) : wpList P ops Q (o :: rest) a w :=
 wpList_step fun K hK => by rw [if_pos hw]; exact wp_load_row ty x ho g hx t cs fr d hg hu hd hi (hK _ _ h)
theorem wd_none (w : World) (a b c : Option Addr) : WdAt w a [] b [] c [] := ⟨fun h => absurd h (by simp), fun h => absurd h (by simp), fun h => absurd h (by simp), fun b hb => by simp at hb, fun b hb => by simp at hb, fun b hb => by simp at hb⟩
theorem gok_x {G : PG} (h : GOk G) : I64 G.gx := by
 have := h.gx; unfold Inn at this; unfold I64; omega
theorem gok_y {G : PG} (h : GOk G) : I64 G.gy := by
 have := h.gy; unfold Inn at this; unfold I64; omega
theorem world_same {G : PG} {B' : List Bd} (h : GOk G) (e : EqBs G.P.B B') : WorldP G.tk G.P.nb G.P.nj G.gx G.gy B' G.P.J G.P.C := by
 have hi : ids G.P.B = ids B' := e.ids
 have hb : ∀ b' ∈ B', BodyP b' := fun b' hb' => by
  obtain ⟨i, hi'⟩ := List.mem_iff_getElem?.1 hb'
  have hl := (List.getElem?_eq_some_iff.1 hi').1
  obtain ⟨b, hb⟩ : ∃ b, G.P.B[i]? = some b := ⟨_, List.getElem?_eq_getElem (by rw [e.1]; exact hl)⟩
  have h1 := e.2 i b b' hb hi'
  exact body_same (b := b) ⟨rfl, h1.2⟩ (h.hB.all b (List.mem_of_getElem? hb))
 refine ⟨h.tk, h.gx, h.gy, ⟨by rw [← e.1]; exact h.hB.len, hb, by show NumP (ids B') _; rw [← hi]; exact h.hB.num⟩, ⟨h.hJ.len, fun j hj => ?_, h.hJ.num⟩, ⟨fun c hc => ?_, h.hC.up⟩⟩
 ·show JointP j ∧ j.a ∈ ids B' ∧ j.b ∈ ids B'
  rw [← hi]
  exact h.hJ.all j hj
 ·show c.a < c.b ∧ 0 ≤ c.key ∧ 0 ≤ c.n ∧ c.a ∈ ids B' ∧ c.b ∈ ids B'
  rw [← hi]
  exact h.hC.all c hc
theorem pull_of (m : List De) (w : World) : OrOf m w (⟨6, 0, 0, 0, 0, 0, 0, 0, 0, 0, 0, 0, 0, 0, none, 0, 0, fun _ => (0, 0)⟩ : Or) := ⟨or_small _ rfl (by simp), .inl (Nat.zero_le _), fun hn => absurd hn (Nat.lt_irrefl 0), .inl ⟨rfl, rfl, rfl⟩⟩
theorem OrsAt.of_own {w : World} {base : Nat} {x : Value} {L : List Or} {m : List De} (h : w.ownsRow base 49 15 x L.length (flatE encO L)) (hO : ∀ o ∈ L, OrOf m w o) (h12 : ∀ d ∈ m, d.rn ≤ 12) : ∃ ao c, x = .slice ao L.length c ∧ OrsAt w ao L := by
 have hb : ∀ o ∈ L, OrI o ∧ o.n ≤ 1073741824 ∧ Sl w o.ao o.n o.f := fun o ho => by
  obtain ⟨h1, h2, h3, _⟩ := hO o ho
  refine ⟨h1, ?_, h3⟩
  rcases h2 with h2 | ⟨d, hd, h2⟩
  ·omega
  ·have := h12 d hd; omega
 rcases h.2 with ⟨e, h0⟩ | ⟨g, cap, cur, e, _⟩
 ·refine ⟨none, 0, by rw [e, h0], fun hn => by omega, hb⟩
 ·obtain ⟨ao, c, e2, hls⟩ := LsT.of_own encO_len h
  exact ⟨ao, c, e2, hls.2.1, hb⟩
theorem oalls_walk (l m : List De) (lo mo : Option Addr) (nl cl nm cm : Nat) (many : Int) (w : World) (hnl : l.length = nl) (hDl : DesAt w lo l) (hcl : nl ≤ cl) (hml : cl ≤ maxLen) (hol : (lo = none ∧ nl = 0 ∧ cl = 0) ∨ ∃ a, lo = some a) (hnm : m.length = nm) (hDm : DesAt w mo m) (hcm : nm ≤ cm) (hmm : cm ≤ maxLen) (hom : (mo = none ∧ nm = 0 ∧ cm = 0) ∨ ∃ a, mo = some a) (im : I64 many) :
  Calls Tryz.prog 3 #[.slice lo nl cl, .slice mo nm cm, .int .i64 many] w fun e v => e = .returned (.bool true) ∧ Below w.heap.size w v := by
 have HMd := hid (fun v (k : Made w.heap.size w v) => made_0 10 (by omega) hnl (hDl.kept k) hcl hml hol)
 have HOr := hid (fun v (k : Made w.heap.size w v) => orders_c 20 (by omega) hnm (hDm.kept k) hcm hmm hom)
 have HDm := hid (fun v (k : Made w.heap.size w v) => hDm.kept k)
 have HNm := hid hnm
 have HIm := hid im
 obtain ⟨iO, hiO, hz0, hz1, hz2⟩ := info_parts infoO
 have iHi := hid hiO; have iH0 := hid hz0; have iH1 := hid hz1; have iH2 := hid hz2
 clear hiO hz0 hz1 hz2
 have hbn := Nat.le_trans hcm hmm
 unfold maxLen at hbn
 clear hnl hDl hcl hml hol hnm hDm hcm hmm hom im
 go_enter Tryz.func3, Tryz.ntmps3
 go_wp2_with fail
 refine (fit10_c _).mono ?_
 rintro e w1 ⟨rfl, k1⟩
 have K1 := hid k1
 clear k1
 go_wp2_with fail
 go_loopg [8, 24] nm (fun gg s8 s24 wx => ∃ k : Nat, k + gg = nm ∧ s24 = .int .i64 (k : Nat) ∧ Hid ((∀ i d, i < k → m[i]? = some d → d.rn ≤ 12) ∧ Made w.heap.size w wx))
 case atStart => exact ⟨0, by omega, by first | rfl | trivial, fun i d hi => by omega, K1.out⟩
 case round =>
  obtain ⟨k, hk, rfl, HH⟩ := hrel
  have H12 := hid HH.out.1
  have HM := hid HH.out.2
  clear HH
  by_cases hkm : k < nm
  ·obtain ⟨d, hd⟩ : ∃ d, m[k]? = some d := ⟨_, List.getElem?_eq_getElem (by rw [HNm.out]; exact hkm)⟩
   have hdes := HDm.out wr HM.out
   obtain ⟨b, off, eao, hb, hLB⟩ := hdes.1 (by rw [HNm.out]; omega)
   have HGet := hid hd
   obtain ⟨cs, ecs⟩ : ∃ cs, encD d = cs := ⟨_, rfl⟩
   have HRg : Hid (wr.rangeAt b (off + k * 30) cs) := by unfold Hid; rw [← ecs]; exact LsB.rangeAt hLB hd
   have HLN : Hid (cs.length = 30) := by unfold Hid; rw [← ecs]; rfl
   have H1C : Hid (∀ v ∈ cs, v.oneCell' = true) := by unfold Hid; rw [← ecs]; exact encD_one d
   have H29 : Hid (cs.toArray[29]? = some (.slice d.rao d.rn d.rc)) := by unfold Hid; rw [← ecs]; rfl
   obtain ⟨g8, eg8⟩ : ∃ g, wr.heap.size = g := ⟨_, rfl⟩
   have HTH : Hid ((wr.alloc (.cells #[.int .i64 0, .int .i64 0, .int .i64 0, .int .i64 0, .int .i64 0, .int .i64 0, .int .i64 0, .int .i64 0, .int .i64 0, .int .i64 0, .int .i64 0, .int .i64 0, .int .i64 0, .int .i64 0, .int .i64 0, .int .i64 0, .int .i64 0, .int .i64 0, .int .i64 0, .int .i64 0, .int .i64 0, .int .i64 0, .int .i64 0, .int .i64 0, .int .i64 0, .int .i64 0, .int .i64 0, .int .i64 0, .int .i64 0, .slice none 0 0] 37)).there g8 0 cs.toArray.size) := by
    unfold Hid; rw [← eg8]; exact there_of (has_new _ _ _) (by rw [List.size_toArray, HLN.out]; decide)
   clear hd hdes hLB ecs
   cases eao
   go_upto_region 6 with (first
    | refine wpList_load_mid rfl 37 (.tmp 26) rfl b (off + k * 30) rfl cs _ HRg.out Tryz.underlying37 rfl (by rw [HLN.out]; kernel_rfl) ?_
    | refine wpList_store_mid rfl 37 (.tmp 8) (.tmp 27) rfl g8 0 cs.toArray rfl rfl HTH.out (by rw [List.size_toArray, HLN.out]; kernel_rfl) (all_oneCell_toArray H1C.out) ?_)
   obtain ⟨W4, e4⟩ : ∃ V, V = (wr.alloc (.cells #[.int .i64 0, .int .i64 0, .int .i64 0, .int .i64 0, .int .i64 0, .int .i64 0, .int .i64 0, .int .i64 0, .int .i64 0, .int .i64 0, .int .i64 0, .int .i64 0, .int .i64 0, .int .i64 0, .int .i64 0, .int .i64 0, .int .i64 0, .int .i64 0, .int .i64 0, .int .i64 0, .int .i64 0, .int .i64 0, .int .i64 0, .int .i64 0, .int .i64 0, .int .i64 0, .int .i64 0, .int .i64 0, .int .i64 0, .slice none 0 0] 37)).setCells g8 0 cs := ⟨_, rfl⟩
   have k4 : Made wr.heap.size wr W4 := by rw [e4]; exact Made.setCells (Nat.le_of_eq eg8) _ _ ((Made.rfl_ _ _).cells (Nat.le_refl _) _ _)
   have HX4 : Has W4 g8 37 cs.toArray := by
    have h := (has_new wr 37 #[.int .i64 0, .int .i64 0, .int .i64 0, .int .i64 0, .int .i64 0, .int .i64 0, .int .i64 0, .int .i64 0, .int .i64 0, .int .i64 0, .int .i64 0, .int .i64 0, .int .i64 0, .int .i64 0, .int .i64 0, .int .i64 0, .int .i64 0, .int .i64 0, .int .i64 0, .int .i64 0, .int .i64 0, .int .i64 0, .int .i64 0, .int .i64 0, .int .i64 0, .int .i64 0, .int .i64 0, .int .i64 0, .int .i64 0, .slice none 0 0]).whole (vs := cs.toArray) (by rw [List.size_toArray, HLN.out]; rfl)
    rw [eg8] at h
    rw [e4]
    exact h
   have c29 : W4.cell? ⟨g8, 29, none⟩ = some (.slice d.rao d.rn d.rc) := by rw [HX4.at_]; exact H29.out
   have l8 : g8 < W4.heap.size := HX4.here
   have HM4 : Hid (Made w.heap.size w W4) := HM.out.then_ (k4.low HM.out.1.size)
   rw [← e4]
   clear e4 eg8 HTH k4 HX4
   by_cases h12 : 12 < d.rn
   ·go_wp2_with fail
    go_ret
    exact ⟨rfl, HM4.out.1⟩
   ·have HL12 : Hid (d.rn ≤ 12) := by unfold Hid; omega
    go_wp2_with fail
    go_roundg (nm - (k + 1))
    case measure => omega
    case rel =>
     refine ⟨k + 1, by omega, by go_num, fun i d' hi hd' => ?_, HM4.out⟩
     by_cases hik : i = k
     ·subst hik
      have := Option.some.inj (hd'.symm.trans HGet.out)
      rw [this]; exact HL12.out
     ·exact H12.out i d' (by omega) hd'
  ·have HAll : Hid (∀ d ∈ m, d.rn ≤ 12) := fun d hd => by
    obtain ⟨i, hi⟩ := List.mem_iff_getElem?.1 hd
    have h1 := (List.getElem?_eq_some_iff.1 hi).1
    have h2 := HNm.out
    exact H12.out i d (by omega) hi
   clear H12 HDm K1
   go_wp2_with fail
   refine (HMd.out _ HM.out).mono ?_
   rintro e w10 ⟨P, val, rfl, hval, hok, hsm, k10⟩
   have K10 := hid (HM.out.then_ (k10.low HM.out.1.size))
   have OK := hid hok
   have SM := hid hsm
   clear k10 hok hsm HMd HM
   obtain ⟨ob, oj, cb, cj, eval, hLm⟩ := hval
   have HLm := hid hLm
   obtain ⟨nB, eB⟩ : ∃ m, P.B.length = m := ⟨_, rfl⟩
   obtain ⟨nJ, eJ⟩ : ∃ m, P.J.length = m := ⟨_, rfl⟩
   obtain ⟨nb, eb⟩ : ∃ m, P.nb = m := ⟨_, rfl⟩
   obtain ⟨nj, ej⟩ : ∃ m, P.nj = m := ⟨_, rfl⟩
   have eC : P.C.length = 0 := by rw [SM.out.1]; rfl
   rw [eB, eJ, eC, eb, ej] at eval
   subst eval
   have HE := hid (And.intro eB (And.intro eJ (And.intro eb ej)))
   clear hLm eB eJ eb ej eC
   obtain ⟨W11, eW11⟩ : ∃ V, V = w10.alloc (.cells #[.int .i64 0, .int .i64 nb, .int .i64 nj, .int .i64 0, .int .i64 0, .slice ob nB cb, .slice oj nJ cj, .slice none 0 0] 42) := ⟨_, rfl⟩
   have kk11 : Made w10.heap.size w10 W11 := by rw [eW11]; exact (Made.rfl_ _ _).cells (Nat.le_refl _) _ _
   have K11 := hid (K10.out.then_ (kk11.low K10.out.1.size))
   have HW11 : Hid (Has W11 w10.heap.size 42 #[.int .i64 0, .int .i64 nb, .int .i64 nj, .int .i64 0, .int .i64 0, .slice ob nB cb, .slice oj nJ cj, .slice none 0 0]) := by unfold Hid; rw [eW11]; exact has_new _ _ _
   have HL11 : Hid (WLs Nil0 W11 ob cb P.B oj cj P.J none 0 []) := by
    have h := HLm.out.kept kk11
    rw [SM.out.1] at h
    exact h
   obtain ⟨gw, egw⟩ : ∃ g, w10.heap.size = g := ⟨_, rfl⟩
   rw [egw] at HW11
   go_upto_region 10 with fail
   rw [← eW11]
   clear eW11 kk11 HLm K10
   try rw [egw]
   clear egw
   have b0 := HW11.out.at_ 0
   have b1 := HW11.out.at_ 1
   have b2 := HW11.out.at_ 2
   have b3 := HW11.out.at_ 3
   have b4 := HW11.out.at_ 4
   have b5 := HW11.out.at_ 5
   have b6 := HW11.out.at_ 6
   have b7 := HW11.out.at_ 7
   simp at b0 b1 b2 b3 b4 b5 b6 b7
   have lw : gw < W11.heap.size := HW11.out.here
   have HCP := hid (fun v (k : Made W11.heap.size W11 v) => copy_mk ob oj cb cj nB nJ nb nj OK.out HE.out (HL11.out.kept k))
   go_wp2_with fail
   refine (HCP.out _ (Made.rfl_ _ _)).mono ?_
   rintro e w12 ⟨g, ex, rfl, h1, h2, h3, h4, k12⟩
   obtain ⟨oa, oja, cba, cja, ev, hsm2, hls, _, _, _, _⟩ := h4
   obtain ⟨eB, eJ, eb, ej⟩ := HE.out
   rw [eB, eJ, eb, ej] at ev
   rw [ev]
   have HSa := hid hsm2
   have HLa := hid (hls.free (Y := Nil0) (fun b hb => hb.elim))
   have HLw := hid (HL11.out.kept k12)
   have HWw := hid (HW11.out.stays k12 HW11.out.here)
   have K12 := hid (K11.out.then_ (k12.low K11.out.1.size))
   clear ev hsm2 hls h1 h2 h3 k12 b0 b1 b2 b3 b4 b5 b6 b7 lw HCP HW11 HL11 K11 eB eJ eb ej
   obtain ⟨W13, eW13⟩ : ∃ V, V = w12.alloc (.cells #[.int .i64 0, .int .i64 nb, .int .i64 nj, .int .i64 0, .int .i64 0, .slice oa nB cba, .slice oja nJ cja, .slice none 0 0] 42) := ⟨_, rfl⟩
   have kk13 : Made w12.heap.size w12 W13 := by rw [eW13]; exact (Made.rfl_ _ _).cells (Nat.le_refl _) _ _
   have HZ13 : Hid (Has W13 w12.heap.size 42 #[.int .i64 0, .int .i64 nb, .int .i64 nj, .int .i64 0, .int .i64 0, .slice oa nB cba, .slice oja nJ cja, .slice none 0 0]) := by unfold Hid; rw [eW13]; exact has_new _ _ _
   have HW13 := hid (HWw.out.stays kk13 HWw.out.here)
   have K13 := hid (K12.out.then_ (kk13.low K12.out.1.size))
   have HLa13 := hid (HLa.out.kept kk13)
   have HLw13 := hid (HLw.out.kept kk13)
   obtain ⟨gz, egz⟩ : ∃ g, w12.heap.size = g := ⟨_, rfl⟩
   rw [egz] at HZ13
   go_upto_region 11 with fail
   rw [← eW13]
   clear eW13 kk13 HLa HLw HWw K12
   try rw [egz]
   clear egz
   go_wp2_with fail
   refine (HOr.out _ K13.out).mono ?_
   rintro e w14 ⟨L, xs, rfl, hLl, hown, hof, k14⟩
   have HLl := hid hLl
   have HOw := hid hown
   have HOf := hid hof
   have K14 := hid k14
   clear hLl hown hof k14 HOr
   go_upto_if 43 with fail
   go_cut [11] (fun s11 wx => ∃ (K : List Or) (ab : Option Addr) (c2 : Nat), s11 = .slice ab K.length c2 ∧ K.length ≤ 85 ∧ Hid (OrsAt wx ab K ∧ (∀ o ∈ K, (o.ao = none ∧ o.n = 0 ∧ o.c = 0) ∨ ∃ a, o.ao = some a) ∧ Made W13.heap.size W13 wx))
   case first =>
    have hL20 : L.length ≤ 20 := by have := HLl.out; omega
    generalize (bits BinOp.and IntKind.i64 many 7 == 7) = q
    cases q with
    | true =>
     go_wp2_with fail
     obtain ⟨T, hT, hT1⟩ : ∃ T : Nat, wrap64 (64 + bits BinOp.and IntKind.i64 (many / 8) 1) = (T : Int) ∧ T ≤ 65 := by
      have h : bits BinOp.and IntKind.i64 (many / 8) 1 = (many / 8) % 2 := and_low (many / 8) 1 (by omega)
      rw [h]
      refine ⟨(64 + (many / 8) % 2).toNat, ?_, by omega⟩
      unfold wrap64
      omega
     rw [hT]
     have HTT := hid hT
     clear hT
     go_loopg [11, 48] T (fun gg s11 s48 wx => ∃ (k : Nat) (K : List Or), k + gg = T ∧ s48 = .int .i64 (k : Nat) ∧ K.length = L.length + k ∧ Hid (wx.ownsRow W13.heap.size 49 15 s11 K.length (flatE encO K) ∧ (∀ o ∈ K, OrOf m wx o ∧ OffO s11 o) ∧ Made W13.heap.size W13 wx))
     case atStart => exact ⟨0, L, by omega, by first | rfl | trivial, rfl, HOw.out, HOf.out, K14.out⟩
     case round =>
      obtain ⟨k, K, hk, rfl, hKl, HH⟩ := hrel
      have HW := hid HH.out.1
      have HO := hid HH.out.2.1
      have HM := hid HH.out.2.2
      have HKl := hid hKl
      have hK85 : K.length + T ≤ 85 + k := by omega
      clear HH hKl
      by_cases hkT : k < T
      ·have hs5 := HM.out.1.size
       have HNb : Hid (Has (wr.alloc (.cells #[.int .i64 6, .int .i64 0, .int .i64 0, .int .i64 0, .int .i64 0, .int .i64 0, .int .i64 0, .int .i64 0, .int .i64 0, .int .i64 0, .int .i64 0, .int .i64 0, .int .i64 0, .int .i64 0, .slice none 0 0] 49)) wr.heap.size 49 #[.int .i64 6, .int .i64 0, .int .i64 0, .int .i64 0, .int .i64 0, .int .i64 0, .int .i64 0, .int .i64 0, .int .i64 0, .int .i64 0, .int .i64 0, .int .i64 0, .int .i64 0, .int .i64 0, .slice none 0 0]) := has_new _ _ _
       have HOa : Hid ((wr.alloc (.cells #[.int .i64 6, .int .i64 0, .int .i64 0, .int .i64 0, .int .i64 0, .int .i64 0, .int .i64 0, .int .i64 0, .int .i64 0, .int .i64 0, .int .i64 0, .int .i64 0, .int .i64 0, .int .i64 0, .slice none 0 0] 49)).ownsRow W13.heap.size 49 15 u11 K.length (flatE encO K)) := HW.out.alloc _
       go_wp2_with (at_builtin; refine wpList_append_at rfl (.tmp 50) (.tmp 52) 45 rfl W13.heap.size 49 iO (.agg #[.int .i64 0, .int .i64 0, .int .i64 0, .int .i64 0, .int .i64 0, .int .i64 0, .int .i64 0, .int .i64 0, .int .i64 0, .int .i64 0, .int .i64 0, .int .i64 0, .int .i64 0, .int .i64 0, .slice none 0 0]) 15 136 Tryz.underlying45 iHi.out iH0.out iH1.out iH2.out rfl (by decide) u11 K.length (flatE encO K) rfl HOa.out ⟨wr.heap.size, 0, none⟩ 1 1 [.int .i64 6, .int .i64 0, .int .i64 0, .int .i64 0, .int .i64 0, .int .i64 0, .int .i64 0, .int .i64 0, .int .i64 0, .int .i64 0, .int .i64 0, .int .i64 0, .int .i64 0, .int .i64 0, .slice none 0 0] rfl rfl (has_news HNb.out) (encO_one (⟨6, 0, 0, 0, 0, 0, 0, 0, 0, 0, 0, 0, 0, 0, none, 0, 0, fun _ => (0, 0)⟩ : Or)) (by unfold maxLen; omega) (by omega) (by simp; omega) (by omega) ?_)
       intro v6 w6 hown hbt hnx
       have kb : But (fun b => some b = u11.ownBlock) wr w6 := (Made.but ((Made.rfl_ wr.heap.size wr).cells (Nat.le_refl _) _ _)).then_ hbt
       have HW6 : Hid (w6.ownsRow W13.heap.size 49 15 v6 (K.length + 1) (flatE encO (K ++ [(⟨6, 0, 0, 0, 0, 0, 0, 0, 0, 0, 0, 0, 0, 0, none, 0, 0, fun _ => (0, 0)⟩ : Or)]))) := by
        unfold Hid
        rw [← flatE_snoc]
        exact hown
       have hnx' : v6.ownBlock = u11.ownBlock ∨ v6.ownBlock = some (wr.heap.size + 1) := by simpa using hnx
       have hmv : ∀ o, OrOf m wr o → OffO u11 o → OrOf m w6 o ∧ OffO v6 o := fun o h1 h2 => by
        refine ⟨⟨h1.1, h1.2.1, fun hn => ?_, h1.2.2.2⟩, fun hn b off s e hb => ?_⟩
        ·obtain ⟨b, off, e, hp⟩ := h1.2.2.1 hn
         exact ⟨b, off, e, hp.but kb (h2 hn b off none e)⟩
        ·rcases hnx' with h | h
         ·exact h2 hn b off s e (hb.trans h)
         ·obtain ⟨b', off', e', hp⟩ := h1.2.2.1 hn
          rw [e] at e'
          cases e'
          have h3 := World.block_lt_of_cell? _ _ (hp 0 hn).1
          rw [h] at hb
          have h4 := Option.some.inj hb
          have h3 : b < wr.heap.size := h3
          omega
       have HO6 : Hid (∀ o ∈ K ++ [(⟨6, 0, 0, 0, 0, 0, 0, 0, 0, 0, 0, 0, 0, 0, none, 0, 0, fun _ => (0, 0)⟩ : Or)], OrOf m w6 o ∧ OffO v6 o) := fun o ho => by
        rcases List.mem_append.1 ho with ho | ho
        ·exact hmv o (HO.out o ho).1 (HO.out o ho).2
        ·rw [List.mem_singleton.1 ho]; exact ⟨pull_of _ _, fun hn => absurd hn (Nat.lt_irrefl 0)⟩
       have HM6 : Hid (Made W13.heap.size W13 w6) := But.made_ HM.out kb hs5 (fun b hb => (HW.out.lt b hb.symm).1)
       clear hown hbt hnx hnx' hmv kb
       go_wp2_with fail
       go_roundg (T - (k + 1))
       case measure => omega
       case rel => exact ⟨k + 1, K ++ [(⟨6, 0, 0, 0, 0, 0, 0, 0, 0, 0, 0, 0, 0, 0, none, 0, 0, fun _ => (0, 0)⟩ : Or)], by omega, by go_num, by rw [List.length_append, HKl.out]; show L.length + k + 1 = _; omega, by rw [List.length_append]; exact ⟨HW6.out, HO6.out, HM6.out⟩⟩
      ·go_wp2_with fail
       go_meet
       obtain ⟨ab, c2, e, hls⟩ := OrsAt.of_own HW.out (fun o ho => (HO.out o ho).1) HAll.out
       exact ⟨K, ab, c2, e, by have := HKl.out; omega, hls, fun o ho => (HO.out o ho).1.2.2.2, HM.out⟩
    | false =>
     go_wp2_with fail
     go_meet
     obtain ⟨ab, c2, e, hls⟩ := OrsAt.of_own HOw.out (fun o ho => (HOf.out o ho).1) HAll.out
     exact ⟨L, ab, c2, e, by omega, hls, fun o ho => (HOf.out o ho).1.2.2.2, K14.out⟩
   case rest =>
    obtain ⟨K, ab, c2, rfl, hK85, HH⟩ := hcut
    clear HLl HOw HOf K14 HIm HAll iHi iH0 iH1 iH2
    have HOs := hid HH.out.1
    have HOk := hid HH.out.2.1
    have K14 := hid HH.out.2.2
    clear HH
    go_upto_if 57 with fail
    go_cut [12] (fun s12 wx => ∃ wt : Int, s12 = .int .i64 wt ∧ Hid (wt = if 64 < K.length then 3 else 0) ∧ wc = wx)
    case first =>
     by_cases h64 : 64 < K.length
     ·go_wp2_with fail
      go_meet
      exact ⟨3, rfl, by unfold Hid; rw [if_pos h64], rfl⟩
     ·go_wp2_with fail
      go_meet
      exact ⟨0, rfl, by unfold Hid; rw [if_neg h64], rfl⟩
    case rest =>
     obtain ⟨wt, rfl, HWT, rfl⟩ := hcut
     have HWc := hid (HW13.out.stays K14.out HW13.out.here)
     have HZc := hid (HZ13.out.stays K14.out HZ13.out.here)
     have HLac := hid (HLa13.out.kept K14.out)
     have HLwc := hid (HLw13.out.kept K14.out)
     have Kc : Hid (Made w.heap.size w wc) := K13.out.then_ (K14.out.low K13.out.1.size)
     clear HW13 HZ13 HLa13 HLw13 K13 K14
     go_upto_region 20 with fail
     have b0 := HWc.out.at_ 0
     have b1 := HWc.out.at_ 1
     have b2 := HWc.out.at_ 2
     have b3 := HWc.out.at_ 3
     have b4 := HWc.out.at_ 4
     have b5 := HWc.out.at_ 5
     have b6 := HWc.out.at_ 6
     have b7 := HWc.out.at_ 7
     simp at b0 b1 b2 b3 b4 b5 b6 b7
     have lw : gw < wc.heap.size := HWc.out.here
     have HCP := hid (fun v (k : Made wc.heap.size wc v) => copy_mk ob oj cb cj nB nJ nb nj OK.out HE.out (HLwc.out.kept k))
     go_wp2_with fail
     refine (HCP.out _ (Made.rfl_ _ _)).mono ?_
     rintro e w15 ⟨g15, ex15, rfl, h1, h2, h3, h4, k15⟩
     obtain ⟨ox, ojx, cbx, cjx, ev, hsm2, hls, _, _, _, _⟩ := h4
     obtain ⟨eB, eJ, eb, ej⟩ := HE.out
     rw [eB, eJ, eb, ej] at ev
     rw [ev]
     have HSx := hid hsm2
     have HLx := hid (hls.free (Y := fun b => w15.heap.size ≤ b) (fun b hb => by first | exact .inr hb | exact .inr (Nat.le_trans h3 hb)))
     have HLw15 := hid (HLwc.out.kept k15)
     have HLa15 := hid (HLac.out.kept k15)
     have HW15 := hid (HWc.out.stays k15 HWc.out.here)
     have HZ15 := hid (HZc.out.stays k15 HZc.out.here)
     have HOs15 := hid (HOs.out.kept k15)
     have K15 := hid (Kc.out.then_ (k15.low Kc.out.1.size))
     have HOsB : Hid (∀ v, Below w15.heap.size w15 v → OrsAt v ab K) := fun v k => HOs15.out.below k
     clear ev hsm2 hls h1 h2 h3 k15 b0 b1 b2 b3 b4 b5 b6 b7 lw HCP HWc HZc HLac HLwc HOs Kc eB eJ eb ej
     obtain ⟨W16, eW16⟩ : ∃ V, V = w15.alloc (.cells #[.int .i64 0, .int .i64 nb, .int .i64 nj, .int .i64 0, .int .i64 0, .slice ox nB cbx, .slice ojx nJ cjx, .slice none 0 0] 42) := ⟨_, rfl⟩
     have kk16 : Made w15.heap.size w15 W16 := by rw [eW16]; exact (Made.rfl_ _ _).cells (Nat.le_refl _) _ _
     have HX16 : Hid (Has W16 w15.heap.size 42 #[.int .i64 0, .int .i64 nb, .int .i64 nj, .int .i64 0, .int .i64 0, .slice ox nB cbx, .slice ojx nJ cjx, .slice none 0 0]) := by unfold Hid; rw [eW16]; exact has_new _ _ _
     have HW16 := hid (HW15.out.stays kk16 HW15.out.here)
     have HZ16 := hid (HZ15.out.stays kk16 HZ15.out.here)
     have HLx16 := hid (HLx.out.kept kk16)
     have HLw16 := hid (HLw15.out.kept kk16)
     have HLa16 := hid (HLa15.out.kept kk16)
     have HOs16 := hid (HOs15.out.kept kk16)
     have K16 := hid (K15.out.then_ (kk16.low K15.out.1.size))
     have HB16 : Hid (Below w15.heap.size w15 W16) := kk16.1
     have hgx : w.heap.size ≤ w15.heap.size ∧ gw < w15.heap.size ∧ gz < w15.heap.size := ⟨K15.out.1.size, HW15.out.here, HZ15.out.here⟩
     obtain ⟨gx, egx⟩ : ∃ g, w15.heap.size = g := ⟨_, rfl⟩
     have HEG := hid egx
     rw [egx] at HX16 hgx HLx16 HOsB HB16
     go_upto_region 21 with fail
     rw [← eW16]
     clear eW16 kk16 HLx HLw15 HLa15 HW15 HZ15 HOs15 K15
     try rw [egx]
     clear egx
     obtain ⟨nK, enK⟩ : ∃ n, K.length = n := ⟨_, rfl⟩
     have hWT : (64 < nK ∧ wt = 3) ∨ (nK ≤ 64 ∧ (∀ o ∈ K.take 0, OrderP o) ∧ wt = 0) ∨ (nK ≤ 64 ∧ (∃ o ∈ K, ¬ OrderP o) ∧ wt = 2) := by
      have h := HWT.out
      rw [enK] at h
      by_cases h64 : 64 < nK
      ·rw [if_pos h64] at h; exact .inl ⟨h64, h⟩
      ·rw [if_neg h64] at h; exact .inr (.inl ⟨by omega, fun o ho => (by cases ho), h⟩)
     rw [enK] at hK85
     rw [enK]
     have HNK := hid enK
     have HW0 := hid hWT
     clear enK hWT HWT
     go_upto_region 21 with fail
     go_wp2_with fail
     go_loopg [12, 15, 62] nK (fun gg s12 s15 s62 wx => ∃ (k : Nat) (wt : Int), k + gg = nK ∧ s62 = .int .i64 (k : Nat) ∧ s12 = .int .i64 wt ∧ Hid (((64 < nK ∧ wt = 3) ∨ (nK ≤ 64 ∧ (∀ o ∈ K.take k, OrderP o) ∧ wt = 0) ∨ (nK ≤ 64 ∧ (∃ o ∈ K, ¬ OrderP o) ∧ wt = 2)) ∧ Made W16.heap.size W16 wx))
     case atStart => exact ⟨0, wt, by omega, by first | rfl | trivial, rfl, HW0.out, Made.rfl_ _ _⟩
     case round =>
      clear HW0
      obtain ⟨k, wt, hk, rfl, rfl, HH⟩ := hrel
      have HWk := hid HH.out.1
      have HM := hid HH.out.2
      clear HH
      by_cases hkn : k < nK
      ·obtain ⟨x, hx⟩ : ∃ x, K[k]? = some x := ⟨_, List.getElem?_eq_getElem (by rw [HNK.out]; exact hkn)⟩
       have hors := HOs16.out.kept HM.out
       obtain ⟨b, off, eao, hb, hLB⟩ := hors.1 (by rw [HNK.out]; omega)
       obtain ⟨hxi, hxn, hxs⟩ := hors.2 x (List.mem_of_getElem? hx)
       have HXI := hid hxi; have HXS := hid hxs; have HXN := hid hxn
       have HXM := hid (List.mem_of_getElem? hx)
       have HTk : Hid (K.take (k + 1) = K.take k ++ [x]) := by unfold Hid; rw [List.take_add_one, hx]; rfl
       obtain ⟨cs, ecs⟩ : ∃ cs, encO x = cs := ⟨_, rfl⟩
       have HRg : Hid (wr.rangeAt b (off + k * 15) cs) := by unfold Hid; rw [← ecs]; exact LsB.rangeAt hLB hx
       have HLN : Hid (cs.length = 15) := by unfold Hid; rw [← ecs]; rfl
       have H1C : Hid (∀ v ∈ cs, v.oneCell' = true) := by unfold Hid; rw [← ecs]; exact encO_one x
       have HCS : Hid (orV x = .agg cs.toArray) := by unfold Hid; rw [← ecs]; rfl
       obtain ⟨g7, eg7⟩ : ∃ g, wr.heap.size = g := ⟨_, rfl⟩
       have HTH : Hid ((wr.alloc (.cells #[.int .i64 0, .int .i64 0, .int .i64 0, .int .i64 0, .int .i64 0, .int .i64 0, .int .i64 0, .int .i64 0, .int .i64 0, .int .i64 0, .int .i64 0, .int .i64 0, .int .i64 0, .int .i64 0, .slice none 0 0] 49)).there g7 0 cs.toArray.size) := by
        unfold Hid; rw [← eg7]; exact there_of (has_new _ _ _) (by rw [List.size_toArray, HLN.out]; decide)
       clear hx hors hLB hxi hxn hxs ecs
       subst eao
       go_upto_region 24 with (first
        | refine wpList_load_mid rfl 49 (.tmp 64) rfl b (off + k * 15) rfl cs _ HRg.out Tryz.underlying49 rfl (by rw [HLN.out]; kernel_rfl) ?_
        | refine wpList_store_mid rfl 49 (.tmp 15) (.tmp 65) rfl g7 0 cs.toArray rfl rfl HTH.out (by rw [List.size_toArray, HLN.out]; kernel_rfl) (all_oneCell_toArray H1C.out) ?_)
       obtain ⟨W4, e4⟩ : ∃ V, V = (wr.alloc (.cells #[.int .i64 0, .int .i64 0, .int .i64 0, .int .i64 0, .int .i64 0, .int .i64 0, .int .i64 0, .int .i64 0, .int .i64 0, .int .i64 0, .int .i64 0, .int .i64 0, .int .i64 0, .int .i64 0, .slice none 0 0] 49)).setCells g7 0 cs := ⟨_, rfl⟩
       have k4 : Made wr.heap.size wr W4 := by rw [e4]; exact Made.setCells (Nat.le_of_eq eg7) _ _ ((Made.rfl_ _ _).cells (Nat.le_refl _) _ _)
       have HX4 : Hid (Has W4 g7 49 cs.toArray) := by
        unfold Hid
        have h := (has_new wr 49 #[.int .i64 0, .int .i64 0, .int .i64 0, .int .i64 0, .int .i64 0, .int .i64 0, .int .i64 0, .int .i64 0, .int .i64 0, .int .i64 0, .int .i64 0, .int .i64 0, .int .i64 0, .int .i64 0, .slice none 0 0]).whole (vs := cs.toArray) (by rw [List.size_toArray, HLN.out]; rfl)
        rw [eg7] at h
        rw [e4]
        exact h
       rw [← e4]
       clear e4 eg7 HTH
       obtain ⟨q, hq⟩ := a_bool (OrderP x)
       have HQ := hid hq
       have HRi := hid (oright_c q x (w := W4) HXN.out HXI.out (Sl.kept HXS.out k4) hq)
       have HM4 : Hid (Made W16.heap.size W16 W4) := HM.out.then_ (k4.low HM.out.1.size)
       rw [HCS.out] at HRi
       clear k4 HM hq
       by_cases hw0 : wt = 0
       ·subst hw0
        have HA : Hid (nK ≤ 64 ∧ ∀ o ∈ K.take k, OrderP o) := by
         rcases HWk.out with h | h | h
         ·exact absurd h.2 (by decide)
         ·exact ⟨h.1, h.2.1⟩
         ·exact absurd h.2.2 (by decide)
        go_wp2_with (refine wpList_load_row_g (by rfl) 49 (.tmp 15) rfl g7 rfl 49 _ (0, 0) _ HX4.out Tryz.underlying49 rfl (by rw [List.size_toArray, HLN.out]; kernel_rfl) ?_)
        refine HRi.out.mono ?_
        rintro e w5 ⟨rfl, k5⟩
        have HM5 : Hid (Made W16.heap.size W16 w5) := HM4.out.then_ (k5.low HM4.out.1.size)
        clear k5 HRi HM4 HX4
        cases q with
        | true =>
         go_wp2_with fail
         go_roundg (nK - (k + 1))
         case measure => omega
         case rel => exact ⟨k + 1, 0, by omega, by go_num, rfl, .inr (.inl ⟨HA.out.1, fun o ho => by
          rw [HTk.out] at ho
          rcases List.mem_append.1 ho with ho | ho
          ·exact HA.out.2 o ho
          ·rw [List.mem_singleton.1 ho]; exact HQ.out.1 (by first | rfl | trivial), rfl⟩), HM5.out⟩
        | false =>
         go_wp2_with fail
         go_roundg (nK - (k + 1))
         case measure => omega
         case rel => exact ⟨k + 1, 2, by omega, by go_num, rfl, .inr (.inr ⟨HA.out.1, ⟨x, HXM.out, fun h => by have := HQ.out.2 h; first | cases this | exact absurd this (by decide)⟩, rfl⟩), HM5.out⟩
       ·have hq0 : (wt == 0) = false := by simpa using hw0
        go_wp2_with fail
        go_roundg (nK - (k + 1))
        case measure => omega
        case rel => exact ⟨k + 1, wt, by omega, by go_num, rfl, by
         rcases HWk.out with h | h | h
         ·exact .inl h
         ·exact absurd h.2.2 hw0
         ·exact .inr (.inr h), HM4.out⟩
      ·have hkK : k = nK := by omega
       have HFin : Hid ((64 < nK ∧ wt = 3) ∨ (nK ≤ 64 ∧ (∀ o ∈ K, OrderP o) ∧ wt = 0) ∨ (nK ≤ 64 ∧ (∃ o ∈ K, ¬ OrderP o) ∧ wt = 2)) := by
        have h := HWk.out
        rw [hkK, ← HNK.out, List.take_length, HNK.out] at h
        exact h
       have HXr := hid (HX16.out.stays HM.out HX16.out.here)
       have HWr := hid (HW16.out.stays HM.out HW16.out.here)
       have HZr := hid (HZ16.out.stays HM.out HZ16.out.here)
       have HLxr := hid (HLx16.out.kept HM.out)
       have HLwr := hid (HLw16.out.kept HM.out)
       have HLar := hid (HLa16.out.kept HM.out)
       have HOsr := hid (HOs16.out.kept HM.out)
       have Kr : Hid (Made w.heap.size w wr) := K16.out.then_ (HM.out.low K16.out.1.size)
       have HBr : Hid (Below gx w15 wr) := HB16.out.trans (HM.out.1.mono (Nat.le_trans (Nat.le_of_eq HEG.out.symm) HB16.out.size))
       clear HB16
       clear HWk HX16 HW16 HZ16 HLx16 HLw16 HLa16 HOs16 K16 HM
       go_upto_region 27 with fail
       have HKw : Hid (GOk (⟨0, 0, 0, ⟨nb, nj, P.B, P.J, []⟩⟩ : PG)) := by
        have h : POk (⟨nb, nj, P.B, P.J, []⟩ : PW) := by
         have e : (⟨nb, nj, P.B, P.J, []⟩ : PW) = P := by rw [← SM.out.1, ← HE.out.2.2.1, ← HE.out.2.2.2]
         rw [e]
         exact OK.out
        exact POk.g h (by simp) (by unfold Inn; simp) (by unfold Inn; simp)
       have HRoom : Hid (nK ≤ 64 → Room (⟨0, 0, 0, ⟨nb, nj, P.B, P.J, []⟩⟩ : PG) K.length) := fun h64 => by
        have h1 := SM.out
        have h2 := HE.out
        refine ⟨?_, ?_, ?_, ?_⟩
        ·show P.B.length + K.length ≤ 1024; rw [HNK.out]; have := h1.2.1; omega
        ·show P.J.length + K.length ≤ 1024; rw [HNK.out]; have := h1.2.2.1; omega
        ·show nb + K.length ≤ 4611686018427387904; rw [HNK.out]; have := h1.2.2.2.1; have := h2.2.2.1; omega
        ·show nj + K.length ≤ 4611686018427387904; rw [HNK.out]; have := h1.2.2.2.2; have := h2.2.2.2; omega
       have HEr : Hid (∀ er G', AfterP K (⟨0, 0, 0, ⟨nb, nj, P.B, P.J, []⟩⟩ : PG) er G' → er = wt ∧ (wt = 0 → ExecsP K (⟨0, 0, 0, ⟨nb, nj, P.B, P.J, []⟩⟩ : PG) 0 G')) := fun er G' h => by
        have hf := HFin.out
        have hk := HNK.out
        rcases h with ⟨h1, rfl⟩ | ⟨h1, ⟨o, ho, hno⟩, rfl⟩ | ⟨_, _, h, _⟩ | ⟨h1, h2, _, h⟩
        ·rcases hf with hf | hf | hf
         ·exact ⟨hf.2.symm, fun h0 => absurd (h0.symm.trans hf.2) (by decide)⟩
         ·omega
         ·omega
        ·rcases hf with hf | hf | hf
         ·omega
         ·exact absurd (hf.2.1 o ho) hno
         ·exact ⟨hf.2.2.symm, fun h0 => absurd (h0.symm.trans hf.2.2) (by decide)⟩
        ·exact absurd (show (4611686018427387904 : Int) ≤ 0 from h) (by decide)
        ·have e0 := execs_room (HRoom.out (by omega)) h
         rcases hf with hf | hf | hf
         ·omega
         ·rw [e0] at h; exact ⟨e0.trans hf.2.2.symm, fun _ => h⟩
         ·obtain ⟨o, ho, hno⟩ := hf.2.1
          exact absurd (h2 o ho) hno
       have HAl := hid (oall_c (nC := 0) (c := c2) 0 0 0 nb nj P.B P.J [] ob oj none cb cj 0 HNK.out (by omega) HOsr.out HOk.out HLwr.out HE.out.1 HE.out.2.1 rfl HKw.out (by decide))
       have b0 := HWr.out.at_ 0
       have b1 := HWr.out.at_ 1
       have b2 := HWr.out.at_ 2
       have b3 := HWr.out.at_ 3
       have b4 := HWr.out.at_ 4
       have b5 := HWr.out.at_ 5
       have b6 := HWr.out.at_ 6
       have b7 := HWr.out.at_ 7
       simp at b0 b1 b2 b3 b4 b5 b6 b7
       have lw : gw < wr.heap.size := HWr.out.here
       go_wp2_with fail
       refine HAl.out.mono ?_
       rintro e w17 ⟨er, G', hA, kb, hr⟩
       obtain ⟨her, hex⟩ := HEr.out er G' hA
       subst her
       have HXs := hid hex
       have B17 := hid kb
       clear hA hex kb HAl b0 b1 b2 b3 b4 b5 b6 b7 lw HRoom
       obtain ⟨yt, ynb, ynj, ygx, ygy, yob, yoj, yoc, ylb, ylj, ylc, ycb, ycj, ycc, rfl, hgot⟩ : ∃ yt ynb ynj ygx ygy yob yoj yoc ylb ylj ylc ycb ycj ycc, e = .returned (.tuple #[wdV yt ynb ynj ygx ygy (.slice yob ylb ycb) (.slice yoj ylj ycj) (.slice yoc ylc ycc), .int .i64 er]) ∧ ((er ≠ 0 ∧ yt = 0 ∧ ynb = 0 ∧ ynj = 0 ∧ ygx = 0 ∧ ygy = 0 ∧ ylb = 0 ∧ ylj = 0 ∧ ylc = 0) ∨ (er = 0 ∧ GOk G' ∧ G'.P.C.length ≤ 0 ∧ ∃ B', EqBs G'.P.B B' ∧ yt = G'.tk ∧ ynb = G'.P.nb ∧ ynj = G'.P.nj ∧ ygx = G'.gx ∧ ygy = G'.gy ∧ ylb = B'.length ∧ ylj = G'.P.J.length ∧ ylc = G'.P.C.length ∧ WLs (fun b => b < wr.heap.size) w17 yob ycb B' yoj ycj G'.P.J yoc ycc G'.P.C)) := by
        rcases hr with ⟨h0, ob', oj', oc', cb', cj', cc', rfl⟩ | ⟨h0, h1, h2, B', ob', oj', oc', cb', cj', cc', h3, rfl, h4⟩
        ·exact ⟨0, 0, 0, 0, 0, ob', oj', oc', 0, 0, 0, cb', cj', cc', rfl, .inl ⟨h0, rfl, rfl, rfl, rfl, rfl, rfl, rfl, rfl⟩⟩
        ·exact ⟨_, _, _, _, _, ob', oj', oc', _, _, _, cb', cj', cc', by rw [h0], .inr ⟨h0, h1, h2, B', h3, rfl, rfl, rfl, rfl, rfl, rfl, rfl, rfl, h4⟩⟩
       have HGt := hid hgot
       clear hr hgot
       have HW17 := hid (HWr.out.kept B17.out HWr.out.here)
       have HZ17 := hid (HZr.out.kept B17.out HZr.out.here)
       have HX17 := hid (HXr.out.kept B17.out HXr.out.here)
       have HLw17 : Hid (WLs Nil0 w17 ob cb P.B oj cj P.J none 0 []) := HLwr.out.bub (Below.bub (X := Nil0) B17.out) (fun _ h => h)
       have HLa17 := hid (HLar.out.bub (Below.bub (X := Nil0) B17.out) (fun _ h => h))
       have HLx17 := hid ((HLxr.out.free (Y := fun b => b = gx) (fun b hb => .inl (Nat.le_of_eq (show gx = b from (show b = gx from hb).symm)))).bub (Below.bub (X := fun b => b = gx) B17.out) (fun _ h => h))
       have HB17 : Hid (Below gx w15 w17) := HBr.out.trans (B17.out.mono (Nat.le_trans (Nat.le_of_eq HEG.out.symm) HBr.out.size))
       have HLe := hid (show gw < wr.heap.size ∧ gz < wr.heap.size ∧ gx < wr.heap.size from ⟨HWr.out.here, HZr.out.here, HXr.out.here⟩)
       have K17 : Hid (Below w.heap.size w w17) := Kr.out.1.trans (B17.out.mono Kr.out.1.size)
       clear HWr HZr HXr HLwr HLar HLxr HBr Kr HOsr
       go_upto_region 28 with fail
       obtain ⟨W18, eW18⟩ : ∃ V, V = w17.alloc (.cells #[.int .i64 yt, .int .i64 ynb, .int .i64 ynj, .int .i64 ygx, .int .i64 ygy, .slice yob ylb ycb, .slice yoj ylj ycj, .slice yoc ylc ycc] 42) := ⟨_, rfl⟩
       have kk18 : Made w17.heap.size w17 W18 := by rw [eW18]; exact (Made.rfl_ _ _).cells (Nat.le_refl _) _ _
       have HG18 : Hid (Has W18 w17.heap.size 42 #[.int .i64 yt, .int .i64 ynb, .int .i64 ynj, .int .i64 ygx, .int .i64 ygy, .slice yob ylb ycb, .slice yoj ylj ycj, .slice yoc ylc ycc]) := by unfold Hid; rw [eW18]; exact has_new _ _ _
       obtain ⟨gg, egg⟩ : ∃ g, w17.heap.size = g := ⟨_, rfl⟩
       have HW18 := hid (HW17.out.stays kk18 HW17.out.here)
       have HZ18 := hid (HZ17.out.stays kk18 HZ17.out.here)
       have HX18 := hid (HX17.out.stays kk18 HX17.out.here)
       have HLw18 := hid (HLw17.out.kept kk18)
       have HLa18 := hid (HLa17.out.kept kk18)
       have HLx18 := hid (HLx17.out.kept kk18)
       have HB18 : Hid (Below gx w15 W18) := HB17.out.trans (kk18.1.mono (Nat.le_trans (Nat.le_of_eq HEG.out.symm) HB17.out.size))
       have K18 : Hid (Below w.heap.size w W18) := K17.out.trans (kk18.1.mono K17.out.size)
       have HOs18 := hid (HOsB.out W18 HB18.out)
       have HgX : Hid (gx < gg) := by unfold Hid; rw [← egg]; exact Nat.lt_of_lt_of_le HLe.out.2.2 B17.out.size
       have hG18 : Hid (((er ≠ 0 ∧ yt = 0 ∧ ynb = 0 ∧ ynj = 0 ∧ ygx = 0 ∧ ygy = 0 ∧ ylb = 0 ∧ ylj = 0 ∧ ylc = 0) ∨ (er = 0 ∧ GOk G' ∧ G'.P.C.length ≤ 0 ∧ ∃ B', EqBs G'.P.B B' ∧ yt = G'.tk ∧ ynb = G'.P.nb ∧ ynj = G'.P.nj ∧ ygx = G'.gx ∧ ygy = G'.gy ∧ ylb = B'.length ∧ ylj = G'.P.J.length ∧ ylc = G'.P.C.length ∧ WLs (fun b => b < wr.heap.size) W18 yob ycb B' yoj ycj G'.P.J yoc ycc G'.P.C))) := by
        rcases HGt.out with h | ⟨h1, h2, h3, B', h4, h5, h6, h7, h8, h9, h10, h11, h12, h13⟩
        ·exact .inl h
        ·exact .inr ⟨h1, h2, h3, B', h4, h5, h6, h7, h8, h9, h10, h11, h12, h13.kept kk18⟩
       rw [egg] at HG18
       rw [← eW18]
       clear eW18 kk18 HW17 HZ17 HX17 HLw17 HLa17 HLx17 HB17 K17 HGt B17
       try rw [egg]
       clear egg
       have HCk := hid (ocheck_c (nC := 0) (c := c2) 0 0 0 nb nj P.B P.J [] ob oj none cb cj 0 HNK.out (by omega) HOs18.out HOk.out HLw18.out HE.out.1 HE.out.2.1 rfl HKw.out (by decide))
       have hne : ((er : Int) != er) = false := by simp
       have b0 := HW18.out.at_ 0
       have b1 := HW18.out.at_ 1
       have b2 := HW18.out.at_ 2
       have b3 := HW18.out.at_ 3
       have b4 := HW18.out.at_ 4
       have b5 := HW18.out.at_ 5
       have b6 := HW18.out.at_ 6
       have b7 := HW18.out.at_ 7
       simp at b0 b1 b2 b3 b4 b5 b6 b7
       have lw : gw < W18.heap.size := HW18.out.here
       go_wp2_with fail
       refine HCk.out.mono ?_
       rintro e w19 ⟨er2, G2, rfl, hA2, kb⟩
       obtain ⟨her2, _⟩ := HEr.out er2 G2 hA2
       subst her2
       clear hA2 b0 b1 b2 b3 b4 b5 b6 b7 lw HCk
       have HW19 := hid (HW18.out.kept kb HW18.out.here)
       have HZ19 := hid (HZ18.out.kept kb HZ18.out.here)
       have HX19 := hid (HX18.out.kept kb HX18.out.here)
       have HG19 := hid (HG18.out.kept kb HG18.out.here)
       have HLw19 := hid (HLw18.out.bub (Below.bub (X := Nil0) kb) (fun _ h => h))
       have HLa19 := hid (HLa18.out.bub (Below.bub (X := Nil0) kb) (fun _ h => h))
       have HLx19 := hid (HLx18.out.bub (Below.bub (X := fun b => b = gx) kb) (fun _ h => h))
       have HB19 : Hid (Below gx w15 w19) := HB18.out.trans (kb.mono (Nat.le_trans (Nat.le_of_eq HEG.out.symm) HB18.out.size))
       have K19 : Hid (Below w.heap.size w w19) := K18.out.trans (kb.mono K18.out.size)
       have hG19 : Hid (((er2 ≠ 0 ∧ yt = 0 ∧ ynb = 0 ∧ ynj = 0 ∧ ygx = 0 ∧ ygy = 0 ∧ ylb = 0 ∧ ylj = 0 ∧ ylc = 0) ∨ (er2 = 0 ∧ GOk G' ∧ G'.P.C.length ≤ 0 ∧ ∃ B', EqBs G'.P.B B' ∧ yt = G'.tk ∧ ynb = G'.P.nb ∧ ynj = G'.P.nj ∧ ygx = G'.gx ∧ ygy = G'.gy ∧ ylb = B'.length ∧ ylj = G'.P.J.length ∧ ylc = G'.P.C.length ∧ WLs (fun b => b < wr.heap.size) w19 yob ycb B' yoj ycj G'.P.J yoc ycc G'.P.C))) := by
        rcases hG18.out with h | ⟨h1, h2, h3, B', h4, h5, h6, h7, h8, h9, h10, h11, h12, h13⟩
        ·exact .inl h
        ·exact .inr ⟨h1, h2, h3, B', h4, h5, h6, h7, h8, h9, h10, h11, h12, h13.bub (Below.bub (X := fun b => b < wr.heap.size) kb) (fun _ h => h)⟩
       clear kb hG18 HW18 HZ18 HX18 HG18 HLw18 HLa18 HLx18 HB18 K18 HOs18 HEr
       have b0 := HW19.out.at_ 0
       have b1 := HW19.out.at_ 1
       have b2 := HW19.out.at_ 2
       have b3 := HW19.out.at_ 3
       have b4 := HW19.out.at_ 4
       have b5 := HW19.out.at_ 5
       have b6 := HW19.out.at_ 6
       have b7 := HW19.out.at_ 7
       simp at b0 b1 b2 b3 b4 b5 b6 b7
       have lw : gw < w19.heap.size := HW19.out.here
       have d0 := HZ19.out.at_ 0
       have d1 := HZ19.out.at_ 1
       have d2 := HZ19.out.at_ 2
       have d3 := HZ19.out.at_ 3
       have d4 := HZ19.out.at_ 4
       have d5 := HZ19.out.at_ 5
       have d6 := HZ19.out.at_ 6
       have d7 := HZ19.out.at_ 7
       simp at d0 d1 d2 d3 d4 d5 d6 d7
       have lz : gz < w19.heap.size := HZ19.out.here
       have h8 : ∀ b ∈ P.B, b.n ≤ 1073741824 := fun b hb => by have := right_n (HKw.out.hB.all b hb).shape; omega
       have hlen : nB ≤ 1073741824 ∧ nJ ≤ 1073741824 ∧ (0 : Nat) ≤ 1073741824 := by
        have h1 := HE.out
        have h2 : P.B.length ≤ 1024 := HKw.out.hB.len
        have h3 : P.J.length ≤ 1024 := HKw.out.hJ.len
        exact ⟨by have := h1.1; omega, by have := h1.2.1; omega, by omega⟩
       have HSm := hid (wsame_c true 0 nb nj 0 0 0 nb nj 0 0 ob oj none oa oja none nB cb nJ cj 0 0 nB cba nJ cja 0 0 (C := []) (C' := []) HLw19.out.at_ HLa19.out.at_ ⟨HE.out.1, HE.out.2.1, rfl⟩ ⟨HSa.out.1.trans HE.out.1, HE.out.2.1, rfl⟩ hlen h8 ⟨fun _ => ⟨rfl, rfl, rfl, ⟨rfl, rfl⟩, SameBs.eq HSa.out, rfl, rfl⟩, fun _ => rfl⟩)
       clear h8 hlen
       go_wp2_with fail
       refine HSm.out.mono ?_
       rintro e w20 ⟨rfl, kb⟩
       clear b0 b1 b2 b3 b4 b5 b6 b7 d0 d1 d2 d3 d4 d5 d6 d7 lw lz HSm
       have HX20 := hid (HX19.out.stays kb HX19.out.here)
       have HG20 := hid (HG19.out.stays kb HG19.out.here)
       have HLx20 := hid (HLx19.out.kept kb)
       have HB20 : Hid (Below gx w15 w20) := HB19.out.trans (kb.1.mono (Nat.le_trans (Nat.le_of_eq HEG.out.symm) HB19.out.size))
       have K20 : Hid (Below w.heap.size w w20) := K19.out.trans (kb.1.mono K19.out.size)
       have hG20 : Hid (((er2 ≠ 0 ∧ yt = 0 ∧ ynb = 0 ∧ ynj = 0 ∧ ygx = 0 ∧ ygy = 0 ∧ ylb = 0 ∧ ylj = 0 ∧ ylc = 0) ∨ (er2 = 0 ∧ GOk G' ∧ G'.P.C.length ≤ 0 ∧ ∃ B', EqBs G'.P.B B' ∧ yt = G'.tk ∧ ynb = G'.P.nb ∧ ynj = G'.P.nj ∧ ygx = G'.gx ∧ ygy = G'.gy ∧ ylb = B'.length ∧ ylj = G'.P.J.length ∧ ylc = G'.P.C.length ∧ WLs (fun b => b < wr.heap.size) w20 yob ycb B' yoj ycj G'.P.J yoc ycc G'.P.C))) := by
        rcases hG19.out with h | ⟨h1, h2, h3, B', h4, h5, h6, h7, h8, h9, h10, h11, h12, h13⟩
        ·exact .inl h
        ·exact .inr ⟨h1, h2, h3, B', h4, h5, h6, h7, h8, h9, h10, h11, h12, h13.kept kb⟩
       clear kb hG19 HW19 HZ19 HX19 HG19 HLw19 HLa19 HLx19 HB19 K19
       go_upto_region 30 with fail
       by_cases h0 : er2 = 0
       case neg =>
        have hY : yt = 0 ∧ ynb = 0 ∧ ynj = 0 ∧ ygx = 0 ∧ ygy = 0 ∧ ylb = 0 ∧ ylj = 0 ∧ ylc = 0 := by
         rcases hG20.out with h | h
         ·exact h.2
         ·exact absurd h.1 h0
        obtain ⟨rfl, rfl, rfl, rfl, rfl, rfl, rfl, rfl⟩ := hY
        have hq0 : ((er2 : Int) != 0) = true := by simpa using h0
        have b0 := HG20.out.at_ 0
        have b1 := HG20.out.at_ 1
        have b2 := HG20.out.at_ 2
        have b3 := HG20.out.at_ 3
        have b4 := HG20.out.at_ 4
        have b5 := HG20.out.at_ 5
        have b6 := HG20.out.at_ 6
        have b7 := HG20.out.at_ 7
        simp at b0 b1 b2 b3 b4 b5 b6 b7
        have lw : gg < w20.heap.size := HG20.out.here
        have HSm := hid (wsame_c true 0 0 0 0 0 0 0 0 0 0 yob yoj yoc none none none 0 ycb 0 ycj 0 ycc 0 0 0 0 0 0 (B := []) (J := []) (C := []) (B' := []) (J' := []) (C' := []) (w := w20) (wd_none _ _ _ _) (wd_none _ _ _ _) ⟨rfl, rfl, rfl⟩ ⟨rfl, rfl, rfl⟩ ⟨by omega, by omega, by omega⟩ (fun b hb => by cases hb) ⟨fun _ => ⟨rfl, rfl, rfl, ⟨rfl, rfl⟩, EqBs.refl _, rfl, rfl⟩, fun _ => rfl⟩)
        clear h0
        go_wp2_with fail
        refine HSm.out.mono ?_
        rintro e w21 ⟨rfl, kb⟩
        go_wp2_with fail
        go_ret
        exact ⟨rfl, K20.out.trans (kb.1.mono K20.out.size)⟩
       case pos =>
        subst h0
        obtain ⟨hGk, hGc, B', hEB, hg1, hg2, hg3, hg4, hg5, hg6, hg7, hg8, hgl⟩ : GOk G' ∧ G'.P.C.length ≤ 0 ∧ ∃ B', EqBs G'.P.B B' ∧ yt = G'.tk ∧ ynb = G'.P.nb ∧ ynj = G'.P.nj ∧ ygx = G'.gx ∧ ygy = G'.gy ∧ ylb = B'.length ∧ ylj = G'.P.J.length ∧ ylc = G'.P.C.length ∧ WLs (fun b => b < wr.heap.size) w20 yob ycb B' yoj ycj G'.P.J yoc ycc G'.P.C := by
         rcases hG20.out with h | h
         ·exact absurd rfl h.1
         ·exact h.2
        have HGk := hid hGk
        have HEB := hid hEB
        have HGy := hid (And.intro hg1 (And.intro hg2 (And.intro hg3 (And.intro hg4 (And.intro hg5 (And.intro hg6 (And.intro hg7 hg8)))))))
        have HGl := hid (hgl.free (Y := fun b => b = gx) (fun b hb => .inl (by have hb : b = gx := hb; have h := HLe.out.2.2; show b < wr.heap.size; omega)))
        have HGc := hid hGc
        have HPs : Hid (nK ≤ 64 ∧ ∀ o ∈ K, OrderP o) := by
         rcases HFin.out with h | h | h
         ·exact absurd h.2 (by decide)
         ·exact ⟨h.1, h.2.1⟩
         ·exact absurd h.2.2 (by decide)
        have HEx : Hid (ExecsP K (⟨0, 0, 0, ⟨nb, nj, P.B, P.J, []⟩⟩ : PG) 0 G') := HXs.out rfl
        have HSx2 := hid (show SameBs P.B ex15.bs from HSx.out)
        have HV0 : Hid (GV (fun b => b = gx) w20 gx (⟨0, 0, 0, ⟨nb, nj, ex15.bs, P.J, []⟩⟩ : PG)) := by
         refine ⟨ox, ojx, none, cbx, cjx, 0, ?_, HLx20.out⟩
         show Has w20 gx 42 #[.int .i64 0, .int .i64 nb, .int .i64 nj, .int .i64 0, .int .i64 0, .slice ox ex15.bs.length cbx, .slice ojx P.J.length cjx, .slice none 0 0]
         rw [HSx.out.1, HE.out.1, HE.out.2.1]
         exact HX20.out
        have HKx : Hid (GOk (⟨0, 0, 0, ⟨nb, nj, ex15.bs, P.J, []⟩⟩ : PG)) := by
         have h := copy_ok OK.out SM.out.1 HSx.out
         rw [HE.out.2.2.1, HE.out.2.2.2] at h
         exact POk.g h (by simp) (by unfold Inn; simp) (by unfold Inn; simp)
        have HQ0 : Hid (EqG (⟨0, 0, 0, ⟨nb, nj, P.B, P.J, []⟩⟩ : PG) (⟨0, 0, 0, ⟨nb, nj, ex15.bs, P.J, []⟩⟩ : PG)) := ⟨rfl, rfl, rfl, rfl, rfl, SameBs.eq HSx.out, rfl, rfl⟩
        have hgw : w.heap.size ≤ gx := hgx.1
        have HGW := hid hgw
        clear hGk hEB hg1 hg2 hg3 hg4 hg5 hg6 hg7 hg8 hgl hGc hG20 HFin HXs HX20 HLx20 hgw hgx HSx HSx2
        go_upto_region 33 with fail
        go_loopg [103] nK (fun gg s103 wx => ∃ k : Nat, k + gg = nK ∧ s103 = .int .i64 (k : Nat) ∧ Hid (∃ G1 H, ExecsP (K.drop k) G1 0 G' ∧ EqG G1 H ∧ GOk G1 ∧ GOk H ∧ H.P.C.length ≤ 0 ∧ GV (fun b => b = gx) wx gx H ∧ Below gx w15 wx ∧ BuB (fun b => b = gx) w20 wx))
        case atStart => exact ⟨0, by omega, by first | rfl | trivial, (⟨0, 0, 0, ⟨nb, nj, P.B, P.J, []⟩⟩ : PG), (⟨0, 0, 0, ⟨nb, nj, ex15.bs, P.J, []⟩⟩ : PG), by rw [List.drop_zero]; exact HEx.out, HQ0.out, HKw.out, HKx.out, Nat.le_refl _, HV0.out, HB20.out, BuB.rfl_ _ _⟩
        case round =>
         obtain ⟨k, hk, rfl, G1, H, hh1, hh2, hh3, hh4, hh5, hh6, hh7, hh8⟩ := hrel
         have HX1 := hid hh1; have HE1 := hid hh2; have HK1 := hid hh3; have HK2 := hid hh4; have HC1 := hid hh5; have HV1 := hid hh6; have HB1 := hid hh7; have HU1 := hid hh8
         clear hh1 hh2 hh3 hh4 hh5 hh6 hh7 hh8
         by_cases hkn : k < nK
         ·obtain ⟨x, hx⟩ : ∃ x, K[k]? = some x := ⟨_, List.getElem?_eq_getElem (by rw [HNK.out]; exact hkn)⟩
          have hors := HOsB.out _ HB1.out
          obtain ⟨b, off, eao, hb, hLB⟩ := hors.1 (by rw [HNK.out]; omega)
          obtain ⟨hxi, hxn, hxs⟩ := hors.2 x (List.mem_of_getElem? hx)
          have HXI := hid hxi; have HXN := hid hxn
          have HXO := hid (HOk.out x (List.mem_of_getElem? hx))
          have HXP := hid (HPs.out.2 x (List.mem_of_getElem? hx))
          have HDr : Hid (K.drop k = x :: K.drop (k + 1)) := by
           unfold Hid
           obtain ⟨h1, h2⟩ := List.getElem?_eq_some_iff.1 hx
           rw [List.drop_eq_getElem_cons h1, h2]
          obtain ⟨cs, ecs⟩ : ∃ cs, encO x = cs := ⟨_, rfl⟩
          have HRg : Hid (wr.rangeAt b (off + k * 15) cs) := by unfold Hid; rw [← ecs]; exact LsB.rangeAt hLB hx
          have HLN : Hid (cs.length = 15) := by unfold Hid; rw [← ecs]; rfl
          have H1C : Hid (∀ v ∈ cs, v.oneCell' = true) := by unfold Hid; rw [← ecs]; exact encO_one x
          have HCS : Hid (orV x = .agg cs.toArray) := by unfold Hid; rw [← ecs]; rfl
          obtain ⟨g7, eg7⟩ : ∃ g, wr.heap.size = g := ⟨_, rfl⟩
          have HTH : Hid ((wr.alloc (.cells #[.int .i64 0, .int .i64 0, .int .i64 0, .int .i64 0, .int .i64 0, .int .i64 0, .int .i64 0, .int .i64 0, .int .i64 0, .int .i64 0, .int .i64 0, .int .i64 0, .int .i64 0, .int .i64 0, .slice none 0 0] 49)).there g7 0 cs.toArray.size) := by
           unfold Hid; rw [← eg7]; exact there_of (has_new _ _ _) (by rw [List.size_toArray, HLN.out]; decide)
          have HXS := hid hxs
          clear hx hors hLB hxi hxn hxs ecs
          subst eao
          go_upto_region 35 with (first
           | refine wpList_load_mid rfl 49 (.tmp 105) rfl b (off + k * 15) rfl cs _ HRg.out Tryz.underlying49 rfl (by rw [HLN.out]; kernel_rfl) ?_
           | refine wpList_store_mid rfl 49 (.tmp 19) (.tmp 106) rfl g7 0 cs.toArray rfl rfl HTH.out (by rw [List.size_toArray, HLN.out]; kernel_rfl) (all_oneCell_toArray H1C.out) ?_)
          obtain ⟨W4, e4⟩ : ∃ V, V = (wr.alloc (.cells #[.int .i64 0, .int .i64 0, .int .i64 0, .int .i64 0, .int .i64 0, .int .i64 0, .int .i64 0, .int .i64 0, .int .i64 0, .int .i64 0, .int .i64 0, .int .i64 0, .int .i64 0, .int .i64 0, .slice none 0 0] 49)).setCells g7 0 cs := ⟨_, rfl⟩
          have k4 : Made wr.heap.size wr W4 := by rw [e4]; exact Made.setCells (Nat.le_of_eq eg7) _ _ ((Made.rfl_ _ _).cells (Nat.le_refl _) _ _)
          have HX4 : Hid (Has W4 g7 49 cs.toArray) := by
           unfold Hid
           have h := (has_new wr 49 #[.int .i64 0, .int .i64 0, .int .i64 0, .int .i64 0, .int .i64 0, .int .i64 0, .int .i64 0, .int .i64 0, .int .i64 0, .int .i64 0, .int .i64 0, .int .i64 0, .int .i64 0, .int .i64 0, .slice none 0 0]).whole (vs := cs.toArray) (by rw [List.size_toArray, HLN.out]; rfl)
           rw [eg7] at h
           rw [e4]
           exact h
          rw [← e4]
          clear e4 eg7 HTH
          have HV4 := hid (WVar.kept HV1.out k4)
          have HU4 : Hid (BuB (fun b => b = gx) w20 W4) := HU1.out.then_ (Made.bub k4)
          have HB4 : Hid (Below gx w15 W4) := HB1.out.trans (k4.1.mono (Nat.le_trans (Nat.le_of_eq HEG.out.symm) HB1.out.size))
          have hxw : ∀ b, (fun b => b = gx) b → b < W4.heap.size := fun b hb => by
           obtain ⟨_, _, _, _, _, _, hH, _⟩ := HV4.out
           have hb : b = gx := hb
           rw [hb]; exact hH.here
          have HDo := hid (odo_p x HV4.out HK2.out rfl hxw HXI.out HXP.out (Sl.kept HXS.out k4) HXO.out (by have := HC1.out; omega))
          rw [HCS.out] at HDo
          clear k4 hxw HXS HV1
          go_wp2_with (refine wpList_load_row_g (by rfl) 49 (.tmp 19) rfl g7 rfl 49 _ (0, 0) _ HX4.out Tryz.underlying49 rfl (by rw [List.size_toArray, HLN.out]; kernel_rfl) ?_)
          refine HDo.out.mono ?_
          rintro e w5 ⟨rfl, er, H2, hex, hv, kb⟩
          have HFin : Hid (∃ G2 H, ExecsP (K.drop (k + 1)) G2 0 G' ∧ EqG G2 H ∧ GOk G2 ∧ GOk H ∧ H.P.C.length ≤ 0 ∧ GV (fun b => b = gx) w5 gx H ∧ Below gx w15 w5 ∧ BuB (fun b => b = gx) w20 w5) := by
           have h := HX1.out
           rw [HDr.out] at h
           obtain ⟨e1, G2, hx2, hr⟩ := h
           rcases hr with ⟨_, hr⟩ | ⟨_, hr⟩
           ·exact absurd hr (by decide)
           ·obtain ⟨hq1, hq2⟩ := exec_same HE1.out HK1.out.p HK2.out.p hx2 hex
            exact ⟨G2, H2, hr, hq1, exec_ok HK1.out HXP.out hx2, exec_ok HK2.out HXP.out hex, Nat.le_trans (exec_C hex) HC1.out, hv, BuB.below_ HB4.out kb (Nat.le_of_lt (by obtain ⟨_, _, _, _, _, _, hH, _⟩ := HV4.out; exact hH.here)) (fun b hb => by have hb : b = gx := hb; omega), HU4.out.then_ kb⟩
          clear hex hv kb HDo HX1 HE1 HK1 HK2 HC1 HB1 HU1 HV4 HU4 HB4 HX4
          go_wp2_with fail
          go_roundg (nK - (k + 1))
          case measure => omega
          case rel => exact ⟨k + 1, by omega, by go_num, HFin.out⟩
         ·have hkK : k = nK := by omega
          have hG1 : G' = G1 := by
           have h := HX1.out
           rw [hkK, ← HNK.out, List.drop_length] at h
           exact h.2
          subst hG1
          obtain ⟨xo, xj, xc, xcb, xcj, xcc, hHx, hLx⟩ := HV1.out
          obtain ⟨ht, hgx1, hgy1, hnb1, hnj1, hB1', hJ1, hC1'⟩ := HE1.out
          obtain ⟨g1, g2, g3, g4, g5, g6, g7, g8⟩ := HGy.out
          have HGg := hid (HG20.out.bub HU1.out (by have h := HgX.out; show ¬ gg = gx; omega))
          have HGl2 := hid (HGl.out.bub HU1.out (fun _ h => h))
          have HHx : Hid (Has wr gx 42 #[.int .i64 yt, .int .i64 ynb, .int .i64 ynj, .int .i64 ygx, .int .i64 ygy, .slice xo ylb xcb, .slice xj ylj xcj, .slice xc ylc xcc]) := by
           unfold Hid
           rw [g1, g2, g3, g4, g5, g6, g7, g8, ht, hnb1, hnj1, hgx1, hgy1, hJ1, hC1', ← HEB.out.1, hB1'.1]
           exact hHx
          have lB : ylb ≤ 1073741824 := by rw [g6, ← HEB.out.1]; have := HGk.out.hB.len; have : G'.P.B.length ≤ 1024 := this; omega
          have lJ : ylj ≤ 1073741824 := by rw [g7]; have : G'.P.J.length ≤ 1024 := HGk.out.hJ.len; omega
          have lC : ylc ≤ 1073741824 := by rw [g8]; have := HGc.out; omega
          have HWP := hid (world_same HGk.out HEB.out)
          have h8 : ∀ b ∈ B', b.n ≤ 1073741824 := fun b hb => by have := right_n (HWP.out.hB.all b hb).shape; omega
          have HSm := hid (wsame_c true yt ynb ynj ygx ygy yt ynb ynj ygx ygy yob yoj yoc xo xj xc ylb ycb ylj ycj ylc ycc ylb xcb ylj xcj ylc xcc HGl2.out.at_ hLx.at_ ⟨g6.symm, g7.symm, g8.symm⟩ ⟨by rw [g6, ← HEB.out.1, hB1'.1], by rw [g7, hJ1], by rw [g8, hC1']⟩ ⟨lB, lJ, lC⟩ h8 ⟨fun _ => ⟨rfl, rfl, rfl, ⟨rfl, rfl⟩, HEB.out.symm.trans hB1', hJ1, hC1'⟩, fun _ => rfl⟩)
          have K22 : Hid (Below w.heap.size w wr) := BuB.below_ K20.out HU1.out K20.out.size (fun b hb => by have hb : b = gx := hb; have h := HGW.out; omega)
          have HRt := hid (fun v (k : Made wr.heap.size wr v) => wright_c (w := v) yt ynb ynj ygx ygy yob yoj yoc ylb ycb ylj ycj ylc ycc true (B := B') (J := G'.P.J) (C := G'.P.C) g6.symm lB g7.symm lJ g8.symm lC (HGl2.out.at_.kept k) (by rw [g4]; exact gok_x HGk.out) (by rw [g5]; exact gok_y HGk.out) ⟨fun _ => by rw [g1, g2, g3, g4, g5]; exact HWP.out, fun _ => rfl⟩)
          clear hHx hLx ht hgx1 hgy1 hnb1 hnj1 hB1' hJ1 hC1' g1 g2 g3 g4 g5 g6 g7 g8 h8 lB lJ lC HX1 HE1 HV1 HU1 HB1 HGl HG20 HK1 HK2 HC1
          have b0 := HGg.out.at_ 0
          have b1 := HGg.out.at_ 1
          have b2 := HGg.out.at_ 2
          have b3 := HGg.out.at_ 3
          have b4 := HGg.out.at_ 4
          have b5 := HGg.out.at_ 5
          have b6 := HGg.out.at_ 6
          have b7 := HGg.out.at_ 7
          simp at b0 b1 b2 b3 b4 b5 b6 b7
          have lw : gg < wr.heap.size := HGg.out.here
          have d0 := HHx.out.at_ 0
          have d1 := HHx.out.at_ 1
          have d2 := HHx.out.at_ 2
          have d3 := HHx.out.at_ 3
          have d4 := HHx.out.at_ 4
          have d5 := HHx.out.at_ 5
          have d6 := HHx.out.at_ 6
          have d7 := HHx.out.at_ 7
          simp at d0 d1 d2 d3 d4 d5 d6 d7
          have lz : gx < wr.heap.size := HHx.out.here
          go_wp2_with fail
          refine HSm.out.mono ?_
          rintro e w23 ⟨rfl, kb⟩
          have HRt2 := hid (HRt.out _ kb)
          have HGg2 := hid (HGg.out.stays kb HGg.out.here)
          have K23 : Hid (Below w.heap.size w w23) := K22.out.trans (kb.1.mono K22.out.size)
          clear b0 b1 b2 b3 b4 b5 b6 b7 d0 d1 d2 d3 d4 d5 d6 d7 lw lz HSm HRt kb HGg HHx K22
          have b0 := HGg2.out.at_ 0
          have b1 := HGg2.out.at_ 1
          have b2 := HGg2.out.at_ 2
          have b3 := HGg2.out.at_ 3
          have b4 := HGg2.out.at_ 4
          have b5 := HGg2.out.at_ 5
          have b6 := HGg2.out.at_ 6
          have b7 := HGg2.out.at_ 7
          simp at b0 b1 b2 b3 b4 b5 b6 b7
          have lw : gg < w23.heap.size := HGg2.out.here
          go_wp2_with fail
          refine HRt2.out.mono ?_
          rintro e w24 ⟨rfl, kb⟩
          go_wp2_with fail
          go_ret
          exact ⟨rfl, K23.out.trans (kb.1.mono K23.out.size)⟩
end Go.Proofs.YtjecadafjnbijaaGreat.Fx