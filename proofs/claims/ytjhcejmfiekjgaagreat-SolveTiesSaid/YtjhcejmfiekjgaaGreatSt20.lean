/- SoL Maks SoS TouchP ShapeE TouchA TouchC Mex TcA TcQ -/
import Derived.Test.YtjhcejmfiekjgaaGreatSt0
import Derived.Test.YtjhcejmfiekjgaaGreatSt1
import Derived.Test.YtjhcejmfiekjgaaGreatSt4
import Derived.Test.YtjhcejmfiekjgaaGreatSt7
import Derived.Test.YtjhcejmfiekjgaaGreatSt12
import Derived.Test.YtjhcejmfiekjgaaGreatSt19
set_option maxRecDepth 100000
set_option maxHeartbeats 64000000
/- Package solve: rows as presses. -/
namespace Go.Proofs.YtjhcejmfiekjgaaGreat.Fx
open Go.ChangeShapes Go.WideShapes Go.ChangeAt Go.RowKit
set_option linter.unusedVariables false
def encR (r : Ro) : List Value := [.int .i64 (r.a : Nat), .int .i64 (r.b : Nat), .int .i64 r.key, .int .i64 r.n.1, .int .i64 r.n.2, .int .i64 r.ra.1, .int .i64 r.ra.2, .int .i64 r.rb.1, .int .i64 r.rb.2, .int .i64 r.gn, .int .i64 r.gt, .int .i64 r.out, .int .i64 r.N, .int .i64 r.T]
theorem encR_len (r : Ro) : (encR r).length = 14 := rfl
structure Lk where
 a : Nat
 b : Nat
 m1 : Int
 i1 : Int
 v1 : Int
 s1 : Int
 m2 : Int
 i2 : Int
 v2 : Int
 s2 : Int
 ra : Int × Int
 rb : Int × Int
def encL (gb : Nat) (l : Lk) : List Value := [.pointer (some ⟨gb, l.a * 11, none⟩), .pointer (some ⟨gb, l.b * 11, none⟩), .int .i64 l.m1, .int .i64 l.i1, .int .i64 l.v1, .int .i64 l.s1, .int .i64 l.m2, .int .i64 l.i2, .int .i64 l.v2, .int .i64 l.s2, .int .i64 l.ra.1, .int .i64 l.ra.2, .int .i64 l.rb.1, .int .i64 l.rb.2]
def zBd : Bd := ⟨0, 0, 0, 0, 0, 0, 0, 0, 0, 0, none, 0, 0, fun _ => (0, 0)⟩
def bdAt (L : List Bd) (i : Nat) : Bd := (L[i]?).getD zBd
theorem bdAt_is {L : List Bd} {i : Nat} {b : Bd} (h : L[i]? = some b) : bdAt L i = b := by unfold bdAt; rw [h]; rfl
def lkOf (L : List Bd) (i k : Nat) (ra rb : Int × Int) : Lk := ⟨i, k, mA (bdAt L i), mI (bdAt L i), moveB (bdAt L i), spinB (bdAt L i), mA (bdAt L k), mI (bdAt L k), moveB (bdAt L k), spinB (bdAt L k), ra, rb⟩
def encPr (gr gb : Nat) (p : Nat × Lk) : List Value := .pointer (some ⟨gr, p.1 * 14, none⟩) :: encL gb p.2
theorem encPr_len (gr gb : Nat) (p : Nat × Lk) : (encPr gr gb p).length = 15 := rfl
def prOf (L : List Bd) (i : Nat) (r : Ro) : Nat × Lk := (i, lkOf L r.a r.b r.ra r.rb)
def presL (L : List Bd) (R : List Ro) : List (Nat × Lk) := R.mapIdx fun i r => prOf L i r
theorem pres_at {L : List Bd} {R : List Ro} {i : Nat} {r : Ro} (h : R[i]? = some r) : (presL L R)[i]? = some (prOf L i r) := by
 unfold presL; rw [List.getElem?_mapIdx, h]; rfl
theorem pres_len (L : List Bd) (R : List Ro) : (presL L R).length = R.length := by unfold presL; simp
theorem alc_L {d : Tmp} {ty : TypeId} {ps : String} {af : Array Edge} : Alc Tryz.prog { dst := some d, op := .alloc 110, type := ty, pos := ps, after := af, guard := none } d 110 #[.pointer none, .pointer none, .int .i64 0, .int .i64 0, .int .i64 0, .int .i64 0, .int .i64 0, .int .i64 0, .int .i64 0, .int .i64 0, .int .i64 0, .int .i64 0, .int .i64 0, .int .i64 0] :=
 ⟨rfl, rfl, fun a w => by go_simp⟩
theorem infoPr : (Tryz.prog.info? 112).map (fun i => (i.zero, i.size, i.bytes)) = some (some (.agg #[.pointer none, .pointer none, .pointer none, .int .i64 0, .int .i64 0, .int .i64 0, .int .i64 0, .int .i64 0, .int .i64 0, .int .i64 0, .int .i64 0, .int .i64 0, .int .i64 0, .int .i64 0, .int .i64 0]), 15, 120) := by kernel_rfl
theorem encPr_one (gr gb : Nat) (p : Nat × Lk) : ∀ v ∈ encPr gr gb p, v.oneCell' = true := by
 intro v hv; simp [encPr, encL] at hv; rcases hv with rfl | rfl | rfl | rfl | rfl | rfl | rfl | rfl | rfl | rfl | rfl | rfl | rfl | rfl | rfl <;> rfl
theorem RowL.elt {α : Type} {enc : α → List Value} {k : Nat} {w : World} {g n : Nat} {t : TypeId} {l : List α} (h : RowL enc k w g t n l) {i : Nat} {x : α} (hx : l[i]? = some x) : ∀ j u, (enc x)[j]? = some u → w.cell? ⟨g, i * k + j, none⟩ = some u := fun j u hu => by
 obtain ⟨_, A, hA, _, h⟩ := h
 rw [hA.at_]
 exact h i x hx j u hu
theorem presses_c {gb gm gr n m cb cm cr : Nat} {t : TypeId} {L : List Bd} {R : List Ro} {w : World} (hM : LsB encM 4 w gm 0 L) (hgm : gm < w.heap.size) (hn : L.length = n) (hR : RowL encR 14 w gr t m R) (hv : ∀ r ∈ R, r.a < n ∧ r.b < n) (hmx : m ≤ 1073741824) (hcr : m ≤ cr) (hcm : cr ≤ maxLen) :
  Calls Tryz.prog 44 #[.agg #[.slice (some ⟨gb, 0, none⟩) n cb, .slice (some ⟨gm, 0, none⟩) n cm], .slice (some ⟨gr, 0, none⟩) m cr] w fun e w' => ∃ op cp, e = .returned (.slice op m cp) ∧ Made w.heap.size w w' ∧ w'.ownsRow w.heap.size 112 15 (.slice op m cp) m (flatE (encPr gr gb) (presL L R)) := by
 have HN := hid hn
 have HRm : Hid (R.length = m) := hR.1
 have hrs := hR.here
 have HM := hid (fun v (k : Made w.heap.size w v) => hM.below k.1 hgm)
 have HR := hid (fun v (k : Made w.heap.size w v) => hR.stays k hrs)
 have HV := hid hv
 obtain ⟨iO, hiO, hz0, hz1, hz2⟩ := info_parts infoPr
 have iHi := hid hiO; have iH0 := hid hz0; have iH1 := hid hz1; have iH2 := hid hz2
 have HW0 : Hid (Has (w.alloc (.cells #[.slice (some ⟨gb, 0, none⟩) n cb, .slice (some ⟨gm, 0, none⟩) n cm] 79)) w.heap.size 79 #[.slice (some ⟨gb, 0, none⟩) n cb, .slice (some ⟨gm, 0, none⟩) n cm]) := has_new _ _ _
 have HB0 : Hid (Made w.heap.size w (w.alloc (.cells #[.slice (some ⟨gb, 0, none⟩) n cb, .slice (some ⟨gm, 0, none⟩) n cm] 79))) := (Made.rfl_ _ _).cells (Nat.le_refl _) _ _
 obtain ⟨g0, eg0⟩ : ∃ g, w.heap.size = g := ⟨_, rfl⟩
 rw [eg0] at HW0
 clear hM hn hR hv hiO hz0 hz1 hz2 hrs
 go_enter Tryz.func44, Tryz.ntmps44
 go_wp2_with fail
 go_loopg [5, 12] m (fun gg s5 s12 wx => ∃ k : Nat, k + gg = m ∧ s12 = .int .i64 (k : Nat) ∧ (∃ op cp, s5 = .slice op k cp ∧ Hid (wx.ownsRow g0 112 15 (.slice op k cp) k (flatE (encPr gr gb) ((presL L R).take k)))) ∧ Hid (Has wx g0 79 #[.slice (some ⟨gb, 0, none⟩) n cb, .slice (some ⟨gm, 0, none⟩) n cm]) ∧ Hid (Made w.heap.size w wx))
 case atStart => exact ⟨0, by omega, by first | rfl | trivial, ⟨none, 0, rfl, World.ownsRow_nil _ _ _ _⟩, HW0.out, HB0.out⟩
 case round =>
  obtain ⟨k, hk, rfl, ⟨op, cp, rfl, HO⟩, HC, HB⟩ := hrel
  clear HW0 HB0
  by_cases hkm : k < m
  ·obtain ⟨r, hr⟩ : ∃ r, R[k]? = some r := ⟨_, List.getElem?_eq_getElem (by rw [HRm.out]; exact hkm)⟩
   obtain ⟨hva, hvb⟩ := HV.out r (List.mem_of_getElem? hr)
   have HPx := hid (pres_at (L := L) hr)
   have hRx := (HR.out wr HB.out).elt hr
   obtain ⟨x, hx⟩ : ∃ x, L[r.a]? = some x := ⟨_, List.getElem?_eq_getElem (by rw [HN.out]; exact hva)⟩
   obtain ⟨y, hy⟩ : ∃ y, L[r.b]? = some y := ⟨_, List.getElem?_eq_getElem (by rw [HN.out]; exact hvb)⟩
   obtain ⟨oa, eoa⟩ : ∃ o, r.a * 11 = o := ⟨_, rfl⟩
   obtain ⟨ob, eob⟩ : ∃ o, r.b * 11 = o := ⟨_, rfl⟩
   obtain ⟨og, eog⟩ : ∃ o, k * 14 = o := ⟨_, rfl⟩
   have q0 := hRx 0 _ rfl
   have q1 := hRx 1 _ rfl
   have q5 := hRx 5 _ rfl
   have q6 := hRx 6 _ rfl
   have q7 := hRx 7 _ rfl
   have q8 := hRx 8 _ rfl
   rw [eog] at q0 q1 q5 q6 q7 q8
   rw [Nat.add_zero] at q0
   obtain ⟨i, ei⟩ : ∃ i, r.a = i := ⟨_, rfl⟩
   obtain ⟨j, ej⟩ : ∃ j, r.b = j := ⟨_, rfl⟩
   obtain ⟨rax, e5⟩ : ∃ z, r.ra.1 = z := ⟨_, rfl⟩
   obtain ⟨ray, e6⟩ : ∃ z, r.ra.2 = z := ⟨_, rfl⟩
   obtain ⟨rbx, e7⟩ : ∃ z, r.rb.1 = z := ⟨_, rfl⟩
   obtain ⟨rby, e8⟩ : ∃ z, r.rb.2 = z := ⟨_, rfl⟩
   rw [ei] at q0 hva hx eoa
   rw [ej] at q1 hvb hy eob
   rw [e5] at q5; rw [e6] at q6; rw [e7] at q7; rw [e8] at q8
   have HLK : Hid (encPr gr gb (prOf L k r) = [.pointer (some ⟨gr, og, none⟩), .pointer (some ⟨gb, oa, none⟩), .pointer (some ⟨gb, ob, none⟩), .int .i64 (mA x), .int .i64 (mI x), .int .i64 (moveB x), .int .i64 (spinB x), .int .i64 (mA y), .int .i64 (mI y), .int .i64 (moveB y), .int .i64 (spinB y), .int .i64 rax, .int .i64 ray, .int .i64 rbx, .int .i64 rby]) := by
    unfold Hid encPr prOf lkOf encL
    simp only
    rw [ei, ej, bdAt_is hx, bdAt_is hy, e5, e6, e7, e8, eoa, eob, eog]
   have HLC := hid (fun v (k2 : Made wr.heap.size wr v) => link_c (gb := gb) (ob := 0) (cb := cb) (cm := cm) (oa := oa) (ok := ob) rax ray rbx rby v ((HM.out v (HB.out.then_ (k2.low HB.out.1.size)))) hx hy hva hvb (by omega) (by omega))
   clear hr hRx hx hy ei ej e5 e6 e7 e8 eoa eob
   go_upto_region 6 with fail
   obtain ⟨A0, a0⟩ : ∃ z, mA x = z := ⟨_, rfl⟩
   obtain ⟨A1, a1⟩ : ∃ z, mI x = z := ⟨_, rfl⟩
   obtain ⟨A2, a2⟩ : ∃ z, moveB x = z := ⟨_, rfl⟩
   obtain ⟨A3, a3⟩ : ∃ z, spinB x = z := ⟨_, rfl⟩
   obtain ⟨B0, b0⟩ : ∃ z, mA y = z := ⟨_, rfl⟩
   obtain ⟨B1, b1⟩ : ∃ z, mI y = z := ⟨_, rfl⟩
   obtain ⟨B2, b2⟩ : ∃ z, moveB y = z := ⟨_, rfl⟩
   obtain ⟨B3, b3⟩ : ∃ z, spinB y = z := ⟨_, rfl⟩
   rw [a0, a1, a2, a3, b0, b1, b2, b3] at HLC HLK
   clear a0 a1 a2 a3 b0 b1 b2 b3
   refine reg_late1 21 48 20 8 110 #[.pointer none, .pointer none, .int .i64 0, .int .i64 0, .int .i64 0, .int .i64 0, .int .i64 0, .int .i64 0, .int .i64 0, .int .i64 0, .int .i64 0, .int .i64 0, .int .i64 0, .int .i64 0] _ (by kernel_rfl) (by kernel_rfl) (fun o ho => by cases ho; exact extract_pure rfl) (.inl (by omega)) (by kernel_rfl) rfl rfl alc_L ?_
   apply Exists.intro
   refine ⟨?h1, ?h2⟩
   case h1 =>
    intro T hT fw hf
    have q0 := Class.reads hf q0
    have q1 := Class.reads hf q1
    have q5 := Class.reads hf q5
    have q6 := Class.reads hf q6
    have q7 := Class.reads hf q7
    have q8 := Class.reads hf q8
    have c0 := Class.reads hf (p := ⟨g0, 0, none⟩) (u := .slice (some ⟨gb, 0, none⟩) n cb) (by rw [HC.out.at_]; rfl)
    have c1 := Class.reads hf (p := ⟨g0, 1, none⟩) (u := .slice (some ⟨gm, 0, none⟩) n cm) (by rw [HC.out.at_]; rfl)
    have HL2 := hid (fun t => hf.made (x := t) (HLC.out _ (hf.1 t)))
    simp only [List.take_succ_cons, List.take_zero]
    repeat (go_big_quiet_step ((go_at_call 60; exact HL2.out _)))
    exact wpQuiet_nil rfl
   intro g8 v k8 hg8 hh8
   have HO8 := hid (own_stays HO.out k8)
   have HC8 := hid (HC.out.stays k8 HC.out.here)
   have HB8 : Hid (Made w.heap.size w v) := HB.out.then_ (k8.low HB.out.1.size)
   have hgs := HB.out.1.size
   have hg8' : g0 < g8 := by have := HC.out.here; omega
   clear k8 HO HC HB q0 q1 q5 q6 q7 q8 HLC hg8
   have hsz : (Tryz.prog.info? 110).map (·.size) = some 14 := by kernel_rfl
   simp only [List.drop_succ_cons, List.drop_zero]
   go_wp2_with (refine wpList_store_row rfl 110 (.tmp 8) (.tmp 37) rfl g8 #[.pointer (some ⟨gb, oa, none⟩), .pointer (some ⟨gb, ob, none⟩), .int .i64 A0, .int .i64 A1, .int .i64 A2, .int .i64 A3, .int .i64 B0, .int .i64 B1, .int .i64 B2, .int .i64 B3, .int .i64 rax, .int .i64 ray, .int .i64 rbx, .int .i64 rby] rfl rfl 110 _ hh8 hsz rfl (by simp [Value.oneCell']) ?_)
   refine NoPanic.normal ?_
   obtain ⟨W9, e9⟩ : ∃ V, V = v.setRow g8 #[.pointer (some ⟨gb, oa, none⟩), .pointer (some ⟨gb, ob, none⟩), .int .i64 A0, .int .i64 A1, .int .i64 A2, .int .i64 A3, .int .i64 B0, .int .i64 B1, .int .i64 B2, .int .i64 B3, .int .i64 rax, .int .i64 ray, .int .i64 rbx, .int .i64 rby] := ⟨_, rfl⟩
   have HX9 : Hid (Has W9 g8 110 #[.pointer (some ⟨gb, oa, none⟩), .pointer (some ⟨gb, ob, none⟩), .int .i64 A0, .int .i64 A1, .int .i64 A2, .int .i64 A3, .int .i64 B0, .int .i64 B1, .int .i64 B2, .int .i64 B3, .int .i64 rax, .int .i64 ray, .int .i64 rbx, .int .i64 rby]) := by unfold Hid; rw [e9]; exact setRow_heap v _ _ _ _ _ hh8
   have HO9 : Hid (W9.ownsRow g0 112 15 (.slice op k cp) k (flatE (encPr gr gb) ((presL L R).take k))) := by unfold Hid; rw [e9]; exact own_apart_row HO8.out (own_apart HO8.out hh8 (by decide)) _
   have HC9 : Hid (Has W9 g0 79 #[.slice (some ⟨gb, 0, none⟩) n cb, .slice (some ⟨gm, 0, none⟩) n cm]) := by
    unfold Hid; rw [e9]
    exact (setRow_other v g8 g0 _ (by omega)).trans HC8.out
   have HB9 : Hid (Made w.heap.size w W9) := by unfold Hid; rw [e9]; exact HB8.out.setRow (by omega) _
   try simp only [Act.put]
   rw [← e9]
   clear e9 hh8 HO8 HC8 HB8
   have HOw : Hid ((W9.alloc (.cells #[.pointer (some ⟨gr, og, none⟩), .pointer (some ⟨gb, oa, none⟩), .pointer (some ⟨gb, ob, none⟩), .int .i64 A0, .int .i64 A1, .int .i64 A2, .int .i64 A3, .int .i64 B0, .int .i64 B1, .int .i64 B2, .int .i64 B3, .int .i64 rax, .int .i64 ray, .int .i64 rbx, .int .i64 rby] 112)).ownsRow g0 112 15 (.slice op k cp) k (flatE (encPr gr gb) ((presL L R).take k))) := HO9.out.alloc _
   have HNb : Hid (Has (W9.alloc (.cells #[.pointer (some ⟨gr, og, none⟩), .pointer (some ⟨gb, oa, none⟩), .pointer (some ⟨gb, ob, none⟩), .int .i64 A0, .int .i64 A1, .int .i64 A2, .int .i64 A3, .int .i64 B0, .int .i64 B1, .int .i64 B2, .int .i64 B3, .int .i64 rax, .int .i64 ray, .int .i64 rbx, .int .i64 rby] 112)) W9.heap.size 112 #[.pointer (some ⟨gr, og, none⟩), .pointer (some ⟨gb, oa, none⟩), .pointer (some ⟨gb, ob, none⟩), .int .i64 A0, .int .i64 A1, .int .i64 A2, .int .i64 A3, .int .i64 B0, .int .i64 B1, .int .i64 B2, .int .i64 B3, .int .i64 rax, .int .i64 ray, .int .i64 rbx, .int .i64 rby]) := has_new _ _ _
   have HCw : Hid (Has (W9.alloc (.cells #[.pointer (some ⟨gr, og, none⟩), .pointer (some ⟨gb, oa, none⟩), .pointer (some ⟨gb, ob, none⟩), .int .i64 A0, .int .i64 A1, .int .i64 A2, .int .i64 A3, .int .i64 B0, .int .i64 B1, .int .i64 B2, .int .i64 B3, .int .i64 rax, .int .i64 ray, .int .i64 rbx, .int .i64 rby] 112)) g0 79 #[.slice (some ⟨gb, 0, none⟩) n cb, .slice (some ⟨gm, 0, none⟩) n cm]) := HC9.out.more _
   have HBw : Hid (Made w.heap.size w (W9.alloc (.cells #[.pointer (some ⟨gr, og, none⟩), .pointer (some ⟨gb, oa, none⟩), .pointer (some ⟨gb, ob, none⟩), .int .i64 A0, .int .i64 A1, .int .i64 A2, .int .i64 A3, .int .i64 B0, .int .i64 B1, .int .i64 B2, .int .i64 B3, .int .i64 rax, .int .i64 ray, .int .i64 rbx, .int .i64 rby] 112))) := HB9.out.cells HB9.out.1.size _ _
   have hs5 : g0 ≤ W9.heap.size := by rw [← eg0]; exact HB9.out.1.size
   have HE1 : Hid (∀ u ∈ ([.pointer (some ⟨gr, og, none⟩), .pointer (some ⟨gb, oa, none⟩), .pointer (some ⟨gb, ob, none⟩), .int .i64 A0, .int .i64 A1, .int .i64 A2, .int .i64 A3, .int .i64 B0, .int .i64 B1, .int .i64 B2, .int .i64 B3, .int .i64 rax, .int .i64 ray, .int .i64 rbx, .int .i64 rby] : List Value), u.oneCell' = true) := by unfold Hid; rw [← HLK.out]; exact encPr_one gr gb _
   go_wp2_with (first
    | refine wpList_load_row rfl 110 (.tmp 8) rfl g8 rfl 110 _ (0, 0) _ HX9.out Tryz.underlying110 rfl hsz ?_
    | (at_builtin; refine wpList_append_at rfl (.tmp 40) (.tmp 44) 103 rfl g0 112 iO (.agg #[.pointer none, .pointer none, .pointer none, .int .i64 0, .int .i64 0, .int .i64 0, .int .i64 0, .int .i64 0, .int .i64 0, .int .i64 0, .int .i64 0, .int .i64 0, .int .i64 0, .int .i64 0, .int .i64 0]) 15 120 Tryz.underlying103 iHi.out iH0.out iH1.out iH2.out rfl (by decide) (.slice op k cp) k (flatE (encPr gr gb) ((presL L R).take k)) rfl HOw.out ⟨W9.heap.size, 0, none⟩ 1 1 [.pointer (some ⟨gr, og, none⟩), .pointer (some ⟨gb, oa, none⟩), .pointer (some ⟨gb, ob, none⟩), .int .i64 A0, .int .i64 A1, .int .i64 A2, .int .i64 A3, .int .i64 B0, .int .i64 B1, .int .i64 B2, .int .i64 B3, .int .i64 rax, .int .i64 ray, .int .i64 rbx, .int .i64 rby] rfl rfl (has_news HNb.out) HE1.out (by unfold maxLen; omega) (by omega) (by simp; omega) (by omega) ?_))
   intro v6 w6 hown hbt hnx
   have hg0n : some g0 ≠ (Value.slice op k cp).ownBlock := own_apart HOw.out HCw.out (by decide)
   have HC6 := hid (HCw.out.but hbt hg0n)
   have HB6 : Hid (Made w.heap.size w w6) := But.made_ HBw.out hbt (by simp; omega) (fun b hb => by have := (HOw.out.lt b hb.symm).1; omega)
   rw [← HLK.out, flatE_snoc, ← take_snoc HPx.out] at hown
   obtain ⟨om6, cm6, rfl⟩ : ∃ o c, v6 = .slice o (k + 1) c := by
    rcases hown.2 with ⟨_, h⟩ | ⟨g, cap, cur, e, _⟩
    ·omega
    ·exact ⟨_, _, e⟩
   have HO6 := hid hown
   clear hown hbt hnx hg0n HOw HNb HCw HBw HO9 HC9 HB9 HX9
   go_wp2_with fail
   go_roundg (m - (k + 1))
   case measure => omega
   case rel => exact ⟨k + 1, by omega, by go_num, ⟨om6, cm6, rfl, HO6.out⟩, HC6.out, HB6.out⟩
  ·have e : k = m := by omega
   subst e
   go_wp2_with fail
   go_ret
   refine ⟨op, cp, rfl, HB.out, ?_⟩
   rw [eg0]
   have h := HO.out
   rw [List.take_of_length_le (by rw [pres_len, HRm.out]; exact Nat.le_refl _)] at h
   exact h
end Go.Proofs.YtjhcejmfiekjgaaGreat.Fx
/- Regions that draw their order, the head of which is no first stretch of the text: as Mak, with a set of operations in the place of 'the first k'. -/
namespace Go.Proofs.YtjhcejmfiekjgaaGreat.Fx.MS
open Go.ChangeShapes Go.WideShapes Go.ChangeAt Go.RowKit MK
set_option linter.unusedVariables false
structure HI (md : Region.Mode) (ops : Array Oper) (hd : Nat → Bool) (listed : Array Bool) : Prop where
 size : listed.size = ops.size
 closed : ∀ j oj, ops[j]? = some oj → listed.getD j false = true → ∀ e ∈ oj.after, Region.binds md e = true → listed.getD e.on false = true
 tail : ∀ t, t < ops.size → hd t = false → listed.getD t true = false
section
variable {ops : Array Oper} {md : Region.Mode} {hd : Nat → Bool}
def chainS (md : Region.Mode) (ops : Array Oper) (hd : Nat → Bool) (k : Nat) : Bool :=
 (List.range ops.size).all fun t => hd t || t == k || (List.range ops.size).any fun u => !hd u && Region.waitsFor md ops t u
def waitS (md : Region.Mode) (ops : Array Oper) (hd : Nat → Bool) (k : Nat) (ps : List Nat) : Bool := (List.range ops.size).all fun i => !hd i || ps.contains i || Region.waitsFor md ops k i || (down md ops 6 ((List.range ops.size).filter fun j => Region.waitsFor md ops k j)).contains i
def seqS (md : Region.Mode) (ops : Array Oper) : List Nat → Array Bool → Bool
 | [], listed => (Region.ready md ops listed).isEmpty
 | k :: ts, listed => decide (Region.ready md ops listed = [k]) && seqS md ops ts (listed.setIfInBounds k true)
end
section
variable {P : Program} {ops : Array Oper} {md : Region.Mode} {w : World} {al : Nat → World → Nat → Nat → Prop} {val : Nat → Nat → Nat → Value} {hd : Nat → Bool} {k : Nat} {ts qs ms ps : List Nat} {dp : Nat → List Nat}
def GM (P : Program) (md : Region.Mode) (ops : Array Oper) (hd : Nat → Bool) (w : World) (al : Nat → World → Nat → Nat → Prop) (val : Nat → Nat → Nat → Value) (k : Nat) (qs ms : List Nat) (dp : Nat → List Nat) (g : Nat) (Q : Exit → Act → World → Prop) (L : (Nat → Option (Nat × Nat)) → Array Bool → Act → Prop) : Nat → (Nat → Option (Nat × Nat)) → Array Bool → Act → Prop
 | 0, G, got, a => L G got a
 | f + 1, G, got, a => Region.ready md ops got ≠ [] ∧ ∀ i ∈ Region.ready md ops got,
   (i ∈ qs ∧ hd i = true ∧ ∃ o v, ops[i]? = some o ∧ YD P ops w al (dp i) G o v a ∧ GM P md ops hd w al val k qs ms dp g Q L f G (got.setIfInBounds i true) (a.put o.dst v)) ∨
   (i ∈ ms ∧ hd i = true ∧ ∃ o d, ops[i]? = some o ∧ MkD P w al val (dp i) G i o d a ∧ ∀ b e, GM P md ops hd w al val k qs ms dp g Q L f (MK.upd G i (b, e)) (got.setIfInBounds i true) (a.put (some d) (val i b e))) ∨
   (i = k ∧ ∀ u, Cm w al G u → wpOp P ops Q i (wpAny P md ops Q (f + g) (got.setIfInBounds i true)) a u)
def ordS (md : Region.Mode) (ops : Array Oper) (ts qs ms : List Nat) : List Nat → Array Bool → Bool
 | [], got => seqS md ops ts got
 | i :: l, got => (Region.ready md ops got).contains i && Region.free md ops got i && (qs.contains i || (ms.contains i && qs.all fun j => got.getD j true || depB md ops j i)) && ordS md ops ts qs ms l (got.setIfInBounds i true)
def mkS (md : Region.Mode) (ops : Array Oper) (k : Nat) (ts cs qs ms ps : List Nat) (dp : Nat → List Nat) : Bool :=
 Region.noSelect ops && !(cs.contains k) && waitS md ops (fun i => cs.contains i) k ps && chainS md ops (fun i => cs.contains i) k && ts.all (fun t => !(cs.contains t)) && decide (cs.length + ts.length = ops.size) && cs.all (fun j => (dp j).all fun m => depB md ops j m) && ms.all (fun i => !(ps.contains i)) && ordS md ops ts qs ms cs (Array.replicate ops.size false)
end
section
variable {P : Program}
end
end Go.Proofs.YtjhcejmfiekjgaaGreat.Fx.MS
/- Package solve: how fast bodies are to part; places in a row. -/
namespace Go.Proofs.YtjhcejmfiekjgaaGreat.Fx
open Go.ChangeShapes Go.WideShapes Go.ChangeAt Go.RowKit
set_option linter.unusedVariables false
theorem rate_c (r : Int) (er : Hid (partF 64 5 = r)) (w : World) : Calls Tryz.prog 63 #[] w fun e w' => e = .returned (.int .i64 r) ∧ Made w.heap.size w w' := by
 go_enter Tryz.func63, Tryz.ntmps63
 go_wp2_with fail
 refine (part_is 64 5 r _ (by unfold I64; omega) (by unfold I64; omega) er.out).mono ?_
 rintro e w1 ⟨rfl, n, rfl⟩
 go_wp2_with fail
 go_ret
 exact ⟨rfl, (Made.rfl_ _ _).draws n⟩
theorem out_c (d r : Int) (w : World) (hd : I64 d) (er : outS d = r) : Calls Tryz.prog 80 #[.int .i64 d] w fun e w' => e = .returned (.int .i64 r) ∧ Made w.heap.size w w' := by
 unfold outS at er
 obtain ⟨x, ex⟩ : ∃ x, subF d 67108864 = x := ⟨_, rfl⟩
 have ix : I64 x := by rw [← ex]; exact i64_sub _ _
 rw [ex] at er
 have EX := hid ex
 clear ex
 go_enter Tryz.func80, Tryz.ntmps80
 go_wp2_with fail
 refine (sub_is d 67108864 x _ hd (by unfold I64; omega) EX.out).mono ?_
 rintro e w1 ⟨rfl, rfl⟩
 by_cases hx : x ≤ 0
 ·rw [if_pos hx] at er
  subst er
  have e1 : decide (x ≤ 0) = true := decide_eq_true hx
  go_wp2_with fail
  go_ret
  exact ⟨rfl, Made.rfl_ _ _⟩
 ·rw [if_neg hx] at er
  have e1 : decide (x ≤ 0) = false := decide_eq_false hx
  obtain ⟨p, ep⟩ : ∃ p, partF 64 5 = p := ⟨_, rfl⟩
  have ip : I64 p := by rw [← ep]; exact i64_div _ _
  obtain ⟨q, eq⟩ : ∃ q, mulF p x = q := ⟨_, rfl⟩
  rw [ep, eq] at er
  have EP := hid ep; have EQ := hid eq
  clear ep eq
  go_wp2_with fail
  refine (rate_c p EP _).mono ?_
  rintro e w2 ⟨rfl, k2⟩
  have K := hid k2
  clear k2
  go_wp2_with fail
  refine (mul_is p x q _ ip ix EQ.out).mono ?_
  rintro e w3 ⟨rfl, rfl⟩
  go_wp2_with fail
  go_ret
  exact ⟨rfl, K.out⟩
end Go.Proofs.YtjhcejmfiekjgaaGreat.Fx
/- Plain words for touching bodies, by the document. No Go in sight. -/
namespace Go.Proofs.YtjhcejmfiekjgaaGreat.Fx
set_option linter.unusedVariables false
def subV (a b : Int × Int) : Int × Int := (subF a.1 b.1, subF a.2 b.2)
def addV (a b : Int × Int) : Int × Int := (addF a.1 b.1, addF a.2 b.2)
def negV (a : Int × Int) : Int × Int := (negF a.1, negF a.2)
def scaV (a : Int × Int) (k : Int) : Int × Int := (mulF a.1 k, mulF a.2 k)
def lenV (a : Int × Int) : Int := lenF a.1 a.2
def unitP (a : Int × Int) : Int × Int := uF a.1 a.2
def leastF (h : Nat → Int) : Nat → Int
 | 0 => h 0
 | m + 1 => min (leastF h m) (h (m + 1))
def firstF (h : Nat → Int) : Nat → Nat
 | 0 => 0
 | m + 1 => if h (firstF h m) < h (m + 1) then m + 1 else firstF h m
def botF (h : Nat → Int) : Nat → Nat
 | 0 => 0
 | m + 1 => if h (m + 1) < h (botF h m) then m + 1 else botF h m
structure Pnt where
 x : Int
 y : Int
 d : Int
 k : Int
 deriving DecidableEq
structure Tch where
 nx : Int
 ny : Int
 pts : List Pnt
 deriving DecidableEq
def noTch : Tch := ⟨0, 0, []⟩
def negT (t : Tch) : Tch := ⟨negF t.nx, negF t.ny, t.pts⟩
def oneT (n at_ : Int × Int) (d k : Int) : Tch := ⟨n.1, n.2, [⟨at_.1, at_.2, d, k⟩]⟩
def roundsN (a b : Int × Int) : Int × Int := if 0 < lenV (subV b a) then unitP (subV b a) else (4294967296, 0)
def roundsF (a : Int × Int) (ra : Int) (b : Int × Int) (rb : Int) : Option Tch :=
 if addF ra rb ≤ lenV (subV b a) then none
 else some (oneT (roundsN a b) (addV a (scaV (roundsN a b) (subF ra (divF (subF (addF ra rb) (lenV (subV b a))) 8589934592)))) (subF (addF ra rb) (lenV (subV b a))) 0)
def gapF (P : Cs) (n : Nat) (Q : Cs) (m : Nat) (i : Nat) : Int := leastF (fun j => dotV (normF P n i) (subV (Q j) (P i))) (m - 1)
def sideF (P : Cs) (n : Nat) (Q : Cs) (m : Nat) : Nat := firstF (gapF P n Q m) (n - 1)
def cornerF (N v u : Int × Int) (r key : Int) : Option Tch :=
 if r ≤ lenV u then none else some (oneT (if lenV u = 0 then N else unitP u) v (subF r (lenV u)) key)
def mixedI (P : Cs) (n : Nat) (c : Int × Int) (r : Int) (i : Nat) : Option Tch :=
 if r ≤ gapF P n (fun _ => c) 1 i then none
 else if gapF P n (fun _ => c) 1 i ≤ 0 then some (oneT (normF P n i) (subV c (scaV (normF P n i) r)) (subF r (gapF P n (fun _ => c) 1 i)) (16 + i))
 else if dotV (subV c (P i)) (subV (P ((i + 1) % n)) (P i)) ≤ 0 then cornerF (normF P n i) (P i) (subV c (P i)) r (2 * i)
 else if dotV (subV c (P ((i + 1) % n))) (negV (subV (P ((i + 1) % n)) (P i))) ≤ 0 then cornerF (normF P n i) (P ((i + 1) % n)) (subV c (P ((i + 1) % n))) r (2 * i + 1)
 else some (oneT (normF P n i) (subV c (scaV (normF P n i) r)) (subF r (gapF P n (fun _ => c) 1 i)) (16 + i))
def mixedF (P : Cs) (n : Nat) (c : Int × Int) (r : Int) : Option Tch := mixedI P n c r (sideF P n (fun _ => c) 1)
def moveV (p q : Int × Int) (x y : Int) : Int × Int := if x < 0 then addV p (scaV (subV q p) (divF x (subF x y))) else p
def cutF (p q v t : Int × Int) : Option ((Int × Int) × (Int × Int)) :=
 if dotV t (subV p v) < 0 ∧ dotV t (subV q v) < 0 then none
 else some (moveV p q (dotV t (subV p v)) (dotV t (subV q v)), moveV q p (dotV t (subV q v)) (dotV t (subV p v)))
def endsF (N v : Int × Int) (x : Int × Int) (key : Int) : List Pnt := if 0 < -dotV N (subV x v) then [⟨x.1, x.2, -dotV N (subV x v), key⟩] else []
def pointsF (N v x y : Int × Int) (key : Int) : Option Tch :=
 if endsF N v x key ++ endsF N v y (key + 1) = [] then none else some ⟨N.1, N.2, endsF N v x key ++ endsF N v y (key + 1)⟩
def incF (N : Int × Int) (Q : Cs) (m : Nat) : Nat := botF (fun j => dotV N (normF Q m j)) (m - 1)
def clipV (N v w x y : Int × Int) (key : Int) : Option Tch :=
 match cutF x y v (unitP (subV w v)) with
 | none => none
 | some (p, q) => match cutF p q w (negV (unitP (subV w v))) with
  | none => none
  | some (p, q) => pointsF N v p q key
def clipF (P : Cs) (n : Nat) (Q : Cs) (m i : Nat) (key : Int) : Option Tch :=
 clipV (normF P n i) (P i) (P ((i + 1) % n)) (Q (incF (normF P n i) Q m)) (Q ((incF (normF P n i) Q m + 1) % m)) key
def polysF (P : Cs) (n : Nat) (Q : Cs) (m : Nat) : Option Tch :=
 if 0 ≤ gapF P n Q m (sideF P n Q m) ∨ 0 ≤ gapF Q m P n (sideF Q m P n) then none
 else if gapF P n Q m (sideF P n Q m) < gapF Q m P n (sideF Q m P n) then (clipF Q m P n (sideF Q m P n) (64 + 2 * (sideF Q m P n : Int))).map negT
 else clipF P n Q m (sideF P n Q m) (32 + 2 * (sideF P n Q m : Int))
inductive Bdy where
 | disc (c : Int × Int) (r : Int)
 | poly (P : Cs) (n : Nat)
def wantF : Bdy → Bdy → Option Tch
 | .disc a r, .disc b s => roundsF a r b s
 | .poly P n, .disc c r => mixedF P n c r
 | .disc c r, .poly P n => (mixedF P n c r).map negT
 | .poly P n, .poly Q m => polysF P n Q m
end Go.Proofs.YtjhcejmfiekjgaaGreat.Fx
/- Contracts of the statements' own words for touching bodies: rows of numbers, first, corners, point. -/
namespace Go.Proofs.YtjhcejmfiekjgaaGreat.Fx
open Go.ChangeShapes Go.WideShapes Go.ChangeAt Go.RowKit
set_option linter.unusedVariables false
def Ints (w : World) (g n : Nat) (h : Nat → Int) : Prop := ∀ i, i < n → w.cell? ⟨g, i, none⟩ = some (.int .i64 (h i))
theorem Ints.kept {w v : World} {g n : Nat} {h : Nat → Int} (q : Ints w g n h) (k : Made w.heap.size w v) : Ints v g n h := fun i hi => k.reads (q i hi)
theorem Ints.stays {w v : World} {g n B : Nat} {h : Nat → Int} (q : Ints w g n h) (k : Made B w v) (hg : g < B) : Ints v g n h := fun i hi => k.at_ (by exact hg) (q i hi)
theorem Ints.here {w : World} {g n : Nat} {h : Nat → Int} (q : Ints w g n h) (hn : 0 < n) : g < w.heap.size := World.block_lt_of_cell? (a := ⟨g, 0, none⟩) w (q 0 hn)
theorem Ints.congr {w : World} {g n : Nat} {h k : Nat → Int} (q : Ints w g n h) (e : ∀ i, i < n → h i = k i) : Ints w g n k := fun i hi => by rw [← e i hi]; exact q i hi
def ints (h : Nat → Int) (n : Nat) : List Value := (List.range n).map fun i => .int .i64 (h i)
def BodyAt (w : World) (X Y A K R : Int) (s : Value) (b : Bdy) : Prop :=
 I64 X ∧ I64 Y ∧ I64 A ∧ I64 R ∧ ((K = 1 ∧ s = .slice none 0 0 ∧ b = .disc (X, Y) R) ∨
 (K = 2 ∧ R = 0 ∧ ∃ g off n cap f, s = .slice (some ⟨g, off, none⟩) n cap ∧ 3 ≤ n ∧ n ≤ 8 ∧ Pts w g off n f ∧ Cin f n ∧ b = .poly (placeF f (cs (stepF A)) (sn (stepF A)) X Y) n))
theorem BodyAt.kept {w v : World} {X Y A K R : Int} {s : Value} {b : Bdy} (h : BodyAt w X Y A K R s b) (k : Made w.heap.size w v) : BodyAt v X Y A K R s b := by
 obtain ⟨h0, h1, h2, h3, h4⟩ := h
 refine ⟨h0, h1, h2, h3, h4.imp id ?_⟩
 rintro ⟨hK, hR, g, off, n, cap, f, hs, n3, n8, hp, r⟩
 exact ⟨hK, hR, g, off, n, cap, f, hs, n3, n8, hp.kept k, r⟩
def PtsT (w : World) (ao : Option Addr) (l : List Pnt) : Prop := 0 < l.length → ∃ b off, ao = some ⟨b, off, none⟩ ∧ ∀ i p, l[i]? = some p →
 w.cell? ⟨b, off + i * 4, none⟩ = some (.int .i64 p.x) ∧ w.cell? ⟨b, off + i * 4 + 1, none⟩ = some (.int .i64 p.y) ∧ w.cell? ⟨b, off + i * 4 + 2, none⟩ = some (.int .i64 p.d) ∧ w.cell? ⟨b, off + i * 4 + 3, none⟩ = some (.int .i64 p.k)
theorem PtsT.kept {w v : World} {ao : Option Addr} {l : List Pnt} (h : PtsT w ao l) (k : Made w.heap.size w v) : PtsT v ao l := fun hl => by
 obtain ⟨b, off, e, h⟩ := h hl
 exact ⟨b, off, e, fun i p hi => ⟨k.reads (h i p hi).1, k.reads (h i p hi).2.1, k.reads (h i p hi).2.2.1, k.reads (h i p hi).2.2.2⟩⟩
abbrev tchV (nx ny : Int) (ao : Option Addr) (n c : Nat) : Value := .agg #[.int .i64 nx, .int .i64 ny, .slice ao n c]
def TouchR (t : Option Tch) (w : World) (e : Ending) (w' : World) : Prop :=
 ∃ ao c, e = .returned (.tuple #[tchV (t.getD noTch).nx (t.getD noTch).ny ao (t.getD noTch).pts.length c, .bool t.isSome]) ∧ PtsT w' ao (t.getD noTch).pts ∧ Made w.heap.size w w'
theorem touch_none {w w' : World} {c : Nat} {ao : Option Addr} (k : Made w.heap.size w w') : TouchR none w (.returned (.tuple #[tchV 0 0 ao 0 c, .bool false])) w' :=
 ⟨ao, c, rfl, fun h => absurd h (by simp [noTch]), k⟩
theorem touch_one {w w' : World} {nx ny ax ay d k : Int} {b c : Nat} (h0 : w'.cell? ⟨b, 0, none⟩ = some (.int .i64 ax)) (h1 : w'.cell? ⟨b, 1, none⟩ = some (.int .i64 ay)) (h2 : w'.cell? ⟨b, 2, none⟩ = some (.int .i64 d)) (h3 : w'.cell? ⟨b, 3, none⟩ = some (.int .i64 k)) (hk : Made w.heap.size w w') :
  TouchR (some (oneT (nx, ny) (ax, ay) d k)) w (.returned (.tuple #[tchV nx ny (some ⟨b, 0, none⟩) 1 c, .bool true])) w' := by
 refine ⟨some ⟨b, 0, none⟩, c, rfl, fun _ => ⟨b, 0, rfl, fun i p hi => ?_⟩, hk⟩
 rcases i with _ | i
 ·simp [oneT] at hi
  subst hi
  exact ⟨h0, h1, h2, h3⟩
 ·simp [oneT] at hi
theorem PtsT.cells {w : World} {b : Nat} {p : Pnt} (h : PtsT w (some ⟨b, 0, none⟩) [p]) :
  w.cell? ⟨b, 0, none⟩ = some (.int .i64 p.x) ∧ w.cell? ⟨b, 1, none⟩ = some (.int .i64 p.y) ∧ w.cell? ⟨b, 2, none⟩ = some (.int .i64 p.d) ∧ w.cell? ⟨b, 3, none⟩ = some (.int .i64 p.k) := by
 obtain ⟨b', off, e, h⟩ := h (by simp)
 simp at e
 obtain ⟨rfl, rfl⟩ := e
 have := h 0 p rfl
 simpa using this
end Go.Proofs.YtjhcejmfiekjgaaGreat.Fx
/- Regions that draw their order, whose tail is a call and what is taken out of its answer, in any order, and then the rest in one order alone. -/
namespace Go.Proofs.YtjhcejmfiekjgaaGreat.Fx
open Go.ChangeShapes Go.WideShapes Go.ChangeAt Go.RowKit
set_option linter.unusedVariables false
def OnlyN (Q : Exit → Act → World → Prop) : Exit → Act → World → Prop
 | .normal, a, w => Q .normal a w
 | _, _, _ => False
theorem OnlyN.imp {Q : Exit → Act → World → Prop} : ∀ (e : Exit) (a : Act) (w : World), OnlyN Q e a w → Q e a w := fun e a w h => by
 cases e <;> first | exact h | exact (h : False).elim
theorem OnlyN.here {Q : Exit → Act → World → Prop} {a : Act} {w : World} (h : Q .normal a w) : OnlyN Q .normal a w := h
section
variable {P : Program} {ops : Array Oper} {md : Region.Mode} {C : World → Prop}
def chainT (md : Region.Mode) (ops : Array Oper) (n : Nat) : Bool :=
 (List.range ops.size).all fun t => decide (t ≤ n) || (List.range t).any fun j => decide (n ≤ j) && Region.waitsFor md ops t j
def lexH (md : Region.Mode) (ops : Array Oper) (B : Array Bool → Bool) : Nat → Nat → Array Bool → Bool
 | 0, _, got => B got
 | f + 1, k, got => (Region.ready md ops got).contains k && Region.free md ops got k && lexH md ops B f (k + 1) (got.setIfInBounds k true)
def tailX (md : Region.Mode) (ops : Array Oper) (n m : Nat) (got : Array Bool) : Bool :=
 decide (Region.ready md ops got = [n]) && Region.lexHead md ops (ops.size - n - 1 - m) m (n + 1) (got.setIfInBounds n true)
def tailXB (md : Region.Mode) (ops : Array Oper) (n m : Nat) : Bool :=
 Region.noSelect ops && decide (n + m < ops.size) && Region.sinkB md ops n && chainT md ops n && lexH md ops (tailX md ops n m) n 0 (Array.replicate ops.size false)
def takenB (l : List Oper) : Bool := l.all fun o => match o.op with | .extract _ _ => true | _ => false
end
section
variable {P : Program}
end
end Go.Proofs.YtjhcejmfiekjgaaGreat.Fx
/- Contracts of package touch: round, flipped, side, beyond, moved. -/
namespace Go.Proofs.YtjhcejmfiekjgaaGreat.Fx
open Go.ChangeShapes Go.WideShapes Go.ChangeAt Go.RowKit
set_option linter.unusedVariables false
abbrev sdV (px py qx qy nx ny : Int) : Value := .agg #[.int .i64 px, .int .i64 py, .int .i64 qx, .int .i64 qy, .int .i64 nx, .int .i64 ny]
abbrev outV (b off cap g c2 n : Nat) : Value := .agg #[.slice (some ⟨b, off, none⟩) n cap, .slice (some ⟨g, 0, none⟩) n c2]
end Go.Proofs.YtjhcejmfiekjgaaGreat.Fx
/- A touch, or none, is answered: with the block of its points new. -/
namespace Go.Proofs.YtjhcejmfiekjgaaGreat.Fx
open Go.ChangeShapes Go.WideShapes Go.ChangeAt Go.RowKit
set_option linter.unusedVariables false
def TouchQ : Option Tch → World → Ending → World → Prop
 | none, w, e, w' => e = .returned (.tuple #[tchV 0 0 none 0 0, .bool false]) ∧ w.heap.size < w'.heap.size ∧ Made w.heap.size w w'
 | some t, w, e, w' => ∃ g c, w.heap.size ≤ g ∧ e = .returned (.tuple #[tchV t.nx t.ny (some ⟨g, 0, none⟩) t.pts.length c, .bool true]) ∧ 0 < t.pts.length ∧ PtsT w' (some ⟨g, 0, none⟩) t.pts ∧ Made w.heap.size w w'
theorem TouchQ.r {t : Option Tch} {w : World} {e : Ending} {w' : World} (h : TouchQ t w e w') : TouchR t w e w' := by
 cases t with
 | none => obtain ⟨rfl, _, k⟩ := h; exact touch_none k
 | some t => obtain ⟨g, c, _, rfl, _, hp, k⟩ := h; exact ⟨some ⟨g, 0, none⟩, c, rfl, hp, k⟩
theorem TouchQ.made {t : Option Tch} {w : World} {e : Ending} {w' : World} (h : TouchQ t w e w') : Made w.heap.size w w' := by
 cases t with
 | none => exact h.2.2
 | some t => obtain ⟨g, c, _, _, _, _, k⟩ := h; exact k
def ansV : Option Tch → Nat → Nat → Value
 | none, _, _ => .tuple #[tchV 0 0 none 0 0, .bool false]
 | some t, g, c => .tuple #[tchV t.nx t.ny (some ⟨g, 0, none⟩) t.pts.length c, .bool true]
def ansP : Option Tch → World → Nat → Prop
 | none, _, _ => True
 | some t, v, g => 0 < t.pts.length ∧ PtsT v (some ⟨g, 0, none⟩) t.pts
theorem ansP.kept {t : Option Tch} {u v : World} {g : Nat} (h : ansP t u g) (k : Made u.heap.size u v) : ansP t v g := by
 cases t with
 | none => trivial
 | some t => exact ⟨h.1, h.2.kept k⟩
theorem touchq_none {w w' : World} (hs : w.heap.size < w'.heap.size) (k : Made w.heap.size w w') : TouchQ none w (.returned (.tuple #[tchV 0 0 none 0 0, .bool false])) w' := ⟨rfl, hs, k⟩
theorem touchq_one {w w' : World} {nx ny ax ay d k : Int} {b c : Nat} (hb : w.heap.size ≤ b) (h0 : w'.cell? ⟨b, 0, none⟩ = some (.int .i64 ax)) (h1 : w'.cell? ⟨b, 1, none⟩ = some (.int .i64 ay)) (h2 : w'.cell? ⟨b, 2, none⟩ = some (.int .i64 d)) (h3 : w'.cell? ⟨b, 3, none⟩ = some (.int .i64 k)) (hk : Made w.heap.size w w') :
  TouchQ (some (oneT (nx, ny) (ax, ay) d k)) w (.returned (.tuple #[tchV nx ny (some ⟨b, 0, none⟩) 1 c, .bool true])) w' := by
 have := touch_one (w := w) (w' := w') (nx := nx) (ny := ny) (c := c) h0 h1 h2 h3 hk
 obtain ⟨ao, c', e, hp, hk⟩ := this
 refine ⟨b, c, hb, rfl, by show 0 < 1; omega, ?_, hk⟩
 have e1 : ao = some ⟨b, 0, none⟩ := by
  have := e
  simp [oneT, tchV] at this
  exact this.1.symm
 subst e1
 exact hp
end Go.Proofs.YtjhcejmfiekjgaaGreat.Fx