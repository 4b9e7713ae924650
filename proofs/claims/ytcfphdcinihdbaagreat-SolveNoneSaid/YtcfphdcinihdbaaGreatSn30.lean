/- SoX SoY SoZ Open -/
import Derived.Test.YtcfphdcinihdbaaGreatSn4
import Derived.Test.YtcfphdcinihdbaaGreatSn12
import Derived.Test.YtcfphdcinihdbaaGreatSn18
import Derived.Test.YtcfphdcinihdbaaGreatSn19
import Derived.Test.YtcfphdcinihdbaaGreatSn29
import Derived.Deep.SlicePairs
set_option maxRecDepth 100000
set_option maxHeartbeats 64000000
/- The anchor of layer 11. -/
namespace Go.Proofs.YtcfphdcinihdbaaGreat.Fx
open Go.ChangeShapes Go.WideShapes Go.ChangeAt Go.RowKit
set_option linter.unusedVariables false
theorem RowsR.one {tt : Bd → Bd → Option Tch} {C : List Ct} {L : List Bd} {p : Int × Int} {R : List Ro} (h : RowsR tt C L [p] R) : PairR tt C L p R := by
 generalize e : [p] = l at h
 cases h with
 | nil => cases e
 | snoc h1 h2 =>
  rename_i ps q R0 R'
  have h0 : ps = [] := by
   have := congrArg List.length e
   simp at this
   exact this
  subst h0
  simp at e
  subst e
  generalize e2 : ([] : List (Int × Int)) = l2 at h1
  cases h1 with
  | nil => simpa using h2
  | snoc _ _ =>
   have := congrArg List.length e2
   simp at this
def ttF : Bd → Bd → Option Tch := fun a b => roundsF (a.x, a.y) a.r (b.x, b.y) b.r
theorem fit_TI (ao ao' : Option Addr) (c c' : Nat) (f f' : Cs) : ∀ a ∈ [dot1 ao c f, dot2 ao' c' f'], ∀ b ∈ [dot1 ao c f, dot2 ao' c' f'], I64 ((ttF a b).getD noTch).nx ∧ I64 ((ttF a b).getD noTch).ny ∧ ((ttF a b).getD noTch).pts.length ≤ 1024 ∧ ∀ p ∈ ((ttF a b).getD noTch).pts, I64 p.x ∧ I64 p.y ∧ I64 p.d ∧ I64 p.k := by
 intro a ha b hb
 simp only [List.mem_cons, List.not_mem_nil, or_false] at ha hb
 rcases ha with rfl | rfl <;> rcases hb with rfl | rfl
 ·have e : ttF (dot1 ao c f) (dot1 ao c f) = _ := rounds_d0
  rw [e]; simp [I64]
 ·have e : ttF (dot1 ao c f) (dot2 ao' c' f') = _ := rounds_d1
  rw [e]; simp [I64]
 ·have e : ttF (dot2 ao' c' f') (dot1 ao c f) = _ := rounds_d2
  rw [e]; simp [I64]
 ·have e : ttF (dot2 ao' c' f') (dot2 ao' c' f') = _ := rounds_d3
  rw [e]; simp [I64]
theorem fit_rows {ao ao' : Option Addr} {c c' : Nat} {f f' : Cs} {R : List Ro} (h : PairR ttF [] [dot1 ao c f, dot2 ao' c' f'] (1, 2) R) : R = [rowD] := by
 rcases h with ⟨i, k, a, b, hi, hk, ea, eb, hR⟩ | ⟨_, h | h⟩
 ·have h0 : i = 0 ∧ a = dot1 ao c f := by
   match i, hi with
   | 0, hi => exact ⟨rfl, (Option.some.inj hi).symm⟩
   | 1, hi =>
    have : a = dot2 ao' c' f' := (Option.some.inj hi).symm
    subst this
    exact absurd ea (show ¬ (2 : Int) = 1 by decide)
   | _ + 2, hi => simp at hi
  have h1 : k = 1 ∧ b = dot2 ao' c' f' := by
   match k, hk with
   | 0, hk =>
    have : b = dot1 ao c f := (Option.some.inj hk).symm
    subst this
    exact absurd eb (show ¬ (1 : Int) = 2 by decide)
   | 1, hk => exact ⟨rfl, (Option.some.inj hk).symm⟩
   | _ + 2, hk => simp at hk
  obtain ⟨rfl, rfl⟩ := h0
  obtain ⟨rfl, rfl⟩ := h1
  have e : ttF (dot1 ao c f) (dot2 ao' c' f') = some ⟨4294967296, 0, [⟨3221225472, 0, 2147483648, 0⟩]⟩ := rounds_d1
  rw [e] at hR
  obtain ⟨hl, hr⟩ := hR
  obtain ⟨x, hx, hr0⟩ := hr 0 ⟨3221225472, 0, 2147483648, 0⟩ rfl
  rcases hx with ⟨hx, _⟩ | ⟨rfl, _⟩
  ·exact absurd hx (by simp)
  ·have hr1 : R[0]? = some (rowS 0 1 (dot1 ao c f) (dot2 ao' c' f') (4294967296, 0) (3221225472, 0) 0 2147483648 0 0) := by simp only [Option.getD_some] at hr0; exact hr0
   rw [row_fit ao ao' c c' f f'] at hr1
   have hl1 : R.length = 1 := hl
   cases R with
   | nil => cases hl1
   | cons r R =>
    cases R with
    | nil => rw [List.getElem?_cons_zero] at hr1; rw [Option.some.inj hr1]
    | cons r2 R => simp at hl1
 ·exact absurd rfl (h (dot1 ao c f) (by simp))
 ·exact absurd rfl (h (dot2 ao' c' f') (by simp))
theorem map_one {α β : Type} {f : α → β} {l : List α} {y : β} (h : l.map f = [y]) : ∃ x, l = [x] ∧ f x = y := by
 cases l with
 | nil => simp at h
 | cons x l => cases l with
  | nil => exact ⟨x, rfl, by simpa using h⟩
  | cons _ _ => simp at h
theorem map_two {α β : Type} {f : α → β} {l : List α} {y z : β} (h : l.map f = [y, z]) : ∃ x x', l = [x, x'] ∧ f x = y ∧ f x' = z := by
 cases l with
 | nil => simp at h
 | cons x l => cases l with
  | nil => simp at h
  | cons x' l => cases l with
   | nil => exact ⟨x, x', rfl, by simpa using h⟩
   | cons _ _ => simp at h
theorem same_eq {b b' : Bd} (h : SameB b b') : b' = ⟨b.id, b.x, b.y, b.vx, b.vy, b.an, b.sp, b.de, b.k, b.r, b'.ao, b.n, b'.c, b'.f⟩ := by
 obtain ⟨h0, h1, h2, h3, h4, h5, h6, h7, h8, h9, h10, _⟩ := h
 rw [← h0, ← h1, ← h2, ← h3, ← h4, ← h5, ← h6, ← h7, ← h8, ← h9, ← h10]
theorem same_dots {ao ao' : Option Addr} {c c' : Nat} {f f' : Cs} {L2 : List Bd} (h : SameBs [dot1 ao c f, dot2 ao' c' f'] L2) : ∃ a1 q1 f1 a2 q2 f2, L2 = [dot1 a1 q1 f1, dot2 a2 q2 f2] := by
 obtain ⟨hl, h⟩ := h
 cases L2 with
 | nil => simp at hl
 | cons x l => cases l with
  | nil => simp at hl
  | cons y l => cases l with
   | nil =>
    have h1 := same_eq (h 0 (dot1 ao c f) x rfl rfl)
    have h2 := same_eq (h 1 (dot2 ao' c' f') y rfl rfl)
    exact ⟨x.ao, x.c, x.f, y.ao, y.c, y.f, by rw [h1, h2]; rfl⟩
   | cons _ _ => simp at hl
theorem dot_ok : BodyP ⟨0, 6442450944, 0, -4294967296, 0, 0, 0, 4294967296, 1, 4294967296, none, 0, 0, fun _ => (0, 0)⟩ :=
 ⟨.inl ⟨rfl, rfl, (by show (16777216 : Int) ≤ 4294967296; decide), (by show (4294967296 : Int) ≤ 274877906944; decide)⟩, by unfold Inn; simp, by unfold Inn; simp, by unfold Inn; simp, by unfold Inn; simp, by unfold Inn; simp, by simp, ⟨by simp, by simp⟩, fun h => absurd h (by simp)⟩
theorem dot_i : BdI ⟨0, 6442450944, 0, -4294967296, 0, 0, 0, 4294967296, 1, 4294967296, none, 0, 0, fun _ => (0, 0)⟩ :=
 ⟨i64_0, by show I64 6442450944; unfold I64; omega, i64_0, by show I64 (-4294967296); unfold I64; omega, i64_0, i64_0, i64_0, by show I64 4294967296; unfold I64; omega, by show I64 1; unfold I64; omega, by show I64 4294967296; unfold I64; omega, fun i hi => absurd hi (by simp)⟩
theorem fit11_c (w : World) : Calls Tryz.prog 9 #[] w fun e v => e = .returned (.bool true) ∧ Below w.heap.size w v := by
 go_enter Tryz.func9, Tryz.ntmps9
 go_wp2_with fail
 refine (new_c _).mono ?_
 rintro e w1 ⟨rfl, k1⟩
 have K1 := hid k1
 clear k1
 obtain ⟨W2, eW2⟩ : ∃ V, V = (w1.alloc (.cells #[.int .i64 0, .int .i64 1, .int .i64 1, .int .i64 0, .int .i64 0, .slice none 0 0, .slice none 0 0, .slice none 0 0] 32)).alloc (.cells #[.int .i64 0, .int .i64 0, .int .i64 0, .int .i64 0, .int .i64 0, .int .i64 0, .int .i64 0, .int .i64 4294967296, .int .i64 1, .int .i64 4294967296, .slice none 0 0] 45) := ⟨_, rfl⟩
 have K2 : Hid (Made w.heap.size w W2) := by unfold Hid; rw [eW2]; exact (K1.out.cells K1.out.1.size _ _).cells (Nat.le_trans K1.out.1.size (by simp)) _ _
 have HM2 : Hid (Has W2 w1.heap.size 32 #[.int .i64 0, .int .i64 1, .int .i64 1, .int .i64 0, .int .i64 0, .slice none 0 0, .slice none 0 0, .slice none 0 0]) := by unfold Hid; rw [eW2]; exact (has_new _ _ _).more _
 have HB2 : Hid (Has W2 (w1.heap.size + 1) 45 #[.int .i64 0, .int .i64 0, .int .i64 0, .int .i64 0, .int .i64 0, .int .i64 0, .int .i64 0, .int .i64 4294967296, .int .i64 1, .int .i64 4294967296, .slice none 0 0]) := by unfold Hid; rw [eW2]; exact has_nxt' _ _ _ _
 have hgm : w.heap.size ≤ w1.heap.size := K1.out.1.size
 obtain ⟨gm, egm⟩ : ∃ g, w1.heap.size = g := ⟨_, rfl⟩
 obtain ⟨gb, egb⟩ : ∃ g, gm + 1 = g := ⟨_, rfl⟩
 rw [egm] at HM2 HB2 hgm
 rw [egb] at HB2
 have HV2 : Hid (WV (fun b => b = gm ∨ b = gb) W2 gm ⟨1, 1, [], [], []⟩) := ⟨none, none, none, 0, 0, 0, HM2.out, ls_new _ _⟩
 have hne : ¬ gb = gm := by omega
 have hne' : ¬ gm = gb := by omega
 go_upto_region 3 with fail
 rw [← eW2]
 clear eW2
 try rw [egm]
 try rw [egb]
 have p0 := HB2.out.at_ 0
 have p1 := HB2.out.at_ 1
 have p2 := HB2.out.at_ 2
 have p3 := HB2.out.at_ 3
 have p4 := HB2.out.at_ 4
 have p5 := HB2.out.at_ 5
 have p6 := HB2.out.at_ 6
 have p7 := HB2.out.at_ 7
 have p8 := HB2.out.at_ 8
 have p9 := HB2.out.at_ 9
 have p10 := HB2.out.at_ 10
 simp at p0 p1 p2 p3 p4 p5 p6 p7 p8 p9 p10
 have l2 : gb < W2.heap.size := HB2.out.here
 have HA := hid (addDot (X := fun b => b = gm ∨ b = gb) (w := W2) (gw := gm) (P := ⟨1, 1, [], [], []⟩) ⟨0, 0, 0, 0, 0, 0, 0, 4294967296, 1, 4294967296, none, 0, 0, fun _ => (0, 0)⟩ (disc_ok 4294967296 (by omega) (by omega)) (disc_i 4294967296 (by omega) (by omega)) rfl ⟨rfl, rfl, rfl⟩ HV2.out ok_new (.inl rfl) (fun b hb => hb.elim (fun h => h ▸ HM2.out.here) (fun h => h ▸ HB2.out.here)) (by simp) (by show (1 : Int) < _; omega))
 go_wp2_with fail
 refine HA.out.mono ?_
 rintro e w3 ⟨rfl, kb3, ao1, c1, hv3, ok3⟩
 have K3 : Hid (Made w.heap.size w w3) := But.made_ K2.out kb3 K2.out.1.size (fun b hb => by have hb : b = gm := hb; omega)
 have HV3 := hid hv3
 have OK3 := hid ok3
 have HB3 := hid (HB2.out.but kb3 hne)
 clear kb3 hv3 ok3 l2 HA HV2 HM2 HB2 K2 p0 p1 p2 p3 p4 p5 p6 p7 p8 p9 p10
 have p0 := HB3.out.at_ 0
 have p1 := HB3.out.at_ 1
 have p2 := HB3.out.at_ 2
 have p3 := HB3.out.at_ 3
 have p4 := HB3.out.at_ 4
 have p5 := HB3.out.at_ 5
 have p6 := HB3.out.at_ 6
 have p7 := HB3.out.at_ 7
 have p8 := HB3.out.at_ 8
 have p9 := HB3.out.at_ 9
 have p10 := HB3.out.at_ 10
 simp at p0 p1 p2 p3 p4 p5 p6 p7 p8 p9 p10
 have l3 : gb < w3.heap.size := HB3.out.here
 have f3 := HB3.out.free
 go_upto_region 5 with fail
 obtain ⟨W4, eW4⟩ : ∃ V, V = (w3.setCell ⟨gb, 1, none⟩ (.int .i64 6442450944)).setCell ⟨gb, 3, none⟩ (.int .i64 (-4294967296)) := ⟨_, rfl⟩
 have kb4 : But (fun b => b = gb) w3 W4 := by rw [eW4]; exact ((But.rfl_ (fun b => b = gb) _).put (p := ⟨gb, 1, none⟩) (.inl rfl) _).put (p := ⟨gb, 3, none⟩) (.inl rfl) _
 have HB4 : Hid (Has W4 gb 45 #[.int .i64 0, .int .i64 6442450944, .int .i64 0, .int .i64 (-4294967296), .int .i64 0, .int .i64 0, .int .i64 0, .int .i64 4294967296, .int .i64 1, .int .i64 4294967296, .slice none 0 0]) := by unfold Hid; rw [eW4]; exact (HB3.out.put 1 _).put 3 _
 have HV4 := hid (WVar.bub HV3.out kb4.bub (fun b hb => .inr hb) hne')
 have K4 : Hid (Made w.heap.size w W4) := But.made_ K3.out kb4 K3.out.1.size (fun b hb => by have hb : b = gb := hb; omega)
 rw [← eW4]
 clear eW4 kb4 HV3 HB3 K3 l3 f3 p0 p1 p2 p3 p4 p5 p6 p7 p8 p9 p10
 have p0 := HB4.out.at_ 0
 have p1 := HB4.out.at_ 1
 have p2 := HB4.out.at_ 2
 have p3 := HB4.out.at_ 3
 have p4 := HB4.out.at_ 4
 have p5 := HB4.out.at_ 5
 have p6 := HB4.out.at_ 6
 have p7 := HB4.out.at_ 7
 have p8 := HB4.out.at_ 8
 have p9 := HB4.out.at_ 9
 have p10 := HB4.out.at_ 10
 simp at p0 p1 p2 p3 p4 p5 p6 p7 p8 p9 p10
 have l4 : gb < W4.heap.size := HB4.out.here
 have lm4 : gm < W4.heap.size := by omega
 have HA := hid (addDot (X := fun b => b = gm ∨ b = gb) (w := W4) (gw := gm) (P := ⟨1 + 1, 1, [] ++ [newB 1 ⟨0, 0, 0, 0, 0, 0, 0, 4294967296, 1, 4294967296, none, 0, 0, fun _ => (0, 0)⟩ ao1 c1], [], []⟩) ⟨0, 6442450944, 0, -4294967296, 0, 0, 0, 4294967296, 1, 4294967296, none, 0, 0, fun _ => (0, 0)⟩ dot_ok dot_i rfl ⟨rfl, rfl, rfl⟩ HV4.out OK3.out (.inl rfl) (fun b hb => by rcases hb with hb | hb <;> omega) (by simp) (by show (1 : Int) + 1 < _; omega))
 go_wp2_with fail
 refine HA.out.mono ?_
 rintro e w5 ⟨rfl, kb5, ao2, c2, hv5, ok5⟩
 have K5 : Hid (Made w.heap.size w w5) := But.made_ K4.out kb5 K4.out.1.size (fun b hb => by have hb : b = gm := hb; omega)
 have hv5 : WVar (fun b => b = gm ∨ b = gb) w5 gm 0 3 1 0 0 [dot1 ao1 c1 fun _ => (0, 0), dot2 ao2 c2 fun _ => (0, 0)] [] [] := hv5
 have ok5 : POk ⟨3, 1, [dot1 ao1 c1 fun _ => (0, 0), dot2 ao2 c2 fun _ => (0, 0)], [], []⟩ := ok5
 clear kb5 l4 lm4 HA HV4 OK3 HB4 K4 p0 p1 p2 p3 p4 p5 p6 p7 p8 p9 p10
 obtain ⟨ob, oj, oc, cb, cj, cc, hH, hL⟩ := hv5
 obtain ⟨f0, ef0⟩ : ∃ f : Cs, (fun _ => (0, 0)) = f := ⟨_, rfl⟩
 rw [ef0] at ok5 hL
 have hH : Has w5 gm 32 #[.int .i64 0, .int .i64 3, .int .i64 1, .int .i64 0, .int .i64 0, .slice ob 2 cb, .slice oj 0 cj, .slice oc 0 cc] := hH
 obtain ⟨L, eL⟩ : ∃ L, [dot1 ao1 c1 f0, dot2 ao2 c2 f0] = L := ⟨_, rfl⟩
 have EL := hid eL
 rw [eL] at ok5 hL
 have hn : L.length = 2 := by rw [← eL]; rfl
 have hkn : ∀ b ∈ L, b.k = 1 ∧ b.n = 0 := by
  rw [← eL]; intro b hb
  simp only [List.mem_cons, List.not_mem_nil, or_false] at hb
  rcases hb with rfl | rfl <;> exact ⟨rfl, rfl⟩
 have hti := fit_TI ao1 ao2 c1 c2 f0 f0
 rw [eL] at hti
 obtain ⟨gp, egp⟩ : ∃ g, w5.heap.size = g := ⟨_, rfl⟩
 obtain ⟨W6, eW6⟩ : ∃ V, V = w5.alloc (.cells #[.int .i64 1, .int .i64 2] 38) := ⟨_, rfl⟩
 have k6 : Made w5.heap.size w5 W6 := by rw [eW6]; exact (Made.rfl_ _ _).cells (Nat.le_refl _) _ _
 have hp6 : Has W6 gp 38 #[.int .i64 1, .int .i64 2] := by rw [eW6, ← egp]; exact has_new _ _ _
 have hL6 := hL.kept k6
 have hPs : LsT encP 2 W6 (some ⟨gp, 0, none⟩) [(1, 2)] := fun _ => ⟨gp, 0, rfl, hp6.here, fun i x hi j u hu => by
  match i, hi with
  | 0, hi =>
   obtain rfl : (1, 2) = x := Option.some.inj hi
   match j, hu with
   | 0, hu => obtain rfl := Option.some.inj hu; exact hp6.at_ 0
   | 1, hu => obtain rfl := Option.some.inj hu; exact hp6.at_ 1
   | _ + 2, hu => simp [encP] at hu
  | _ + 1, hi => simp at hi⟩
 have hbi : ∀ b ∈ L, BdI b := fun b hb => (hL6.at_.sB b hb).2
 have HRW := hid (rows_c ttF (tk := 0) (nb := 3) (nj := 1) (gx := 0) (gy := 0) (oj := oj) (nj' := 0) (cj := cj) (cc := cc) (cp := 1) (w := W6) hn hL6.at_.lB (by have := hL6.okB; rw [hn] at this; exact this) hbi ok5.hB.all (fun b hb => (hL6.at_.sB b hb).1) (by omega) ok5.hB.num.2.2.1 (C := []) (oc := oc) (nc := 0) (fun h => absurd h (by simp)) rfl (by omega) List.Pairwise.nil (fun c hc => absurd hc (by simp)) (Ps := [(1, 2)]) (np := 1) hPs rfl (by omega)
  (fun _ a ha b hb v _ => touch_cc (hkn a ha).1 (hkn b hb).1 (hkn a ha).2 (hkn b hb).2 (hbi a ha) (hbi b hb) v) (fun _ => hti))
 have HL6 := hid hL6
 have HH6 := hid (hH.stays k6 hH.here)
 have K6 : Hid (Made w.heap.size w W6) := K5.out.then_ (k6.low K5.out.1.size)
 have HH5 := hid hH
 have HBI := hid hbi; have HBP := hid ok5.hB.all; have HN := hid hn
 have lgp : gm < gp := by rw [← egp]; exact hH.here
 have hszW : (Tryz.prog.info? 32).map (·.size) = some 8 := by kernel_rfl
 have EW6 := hid eW6
 clear hH hL ok5 hn hkn hti k6 hp6 hL6 hPs hbi eL K5 ef0 eW6
 go_upto_region 6 with fail
 go_wp2_with (refine wpList_load_row rfl 32 (.tmp 1) rfl gm rfl 32 _ (0, 0) _ HH5.out Tryz.underlying32 rfl hszW ?_)
 try rw [← EW6.out]
 try rw [egp]
 refine HRW.out.mono ?_
 rintro e w7 ⟨orr, cr, R, rfl, hrr, hown, b7⟩
 have hrr := hrr.one
 rw [← EL.out] at hrr
 have hR := fit_rows hrr
 have hl1 : R.length = 1 := by rw [hR]; rfl
 rw [hl1] at hown ⊢
 subst hR
 have B7 : Hid (Below w.heap.size w w7) := K6.out.1.trans (b7.mono K6.out.1.size)
 have l67 : W6.heap.size ≤ w7.heap.size := b7.size
 obtain ⟨gr, cr', er, hgr, hcr, hcr2, hrow⟩ := RowL.of_own (l := [rowD]) encR_len rfl hown (by decide)
 cases er
 have HRow := hid hrow
 have hL7 := HL6.out.bub (Below.bub (X := Nil0) b7) (fun _ h => h.elim)
 have HH7 := hid (HH6.out.below b7 HH6.out.here)
 have HLw : Hid (WLs (fun b => b = gm ∨ b = gb) w7 ob cb L none 0 [] none 0 []) := by
  have e := ls_new (fun b => b = gm ∨ b = gb) w7
  exact ⟨⟨hL7.at_.lB, e.at_.lJ, e.at_.lC, hL7.at_.sB, e.at_.iJ, e.at_.iC⟩, hL7.okB, e.okJ, e.okC, hL7.offB, e.offJ, e.offC, hL7.offP, hL7.okP⟩
 have hgrw : gr < w7.heap.size := hrow.here
 have hob : Offs (fun x => x = gr ∧ 0 < 1) ob := fun b off s e hb => by
  obtain ⟨b', off', e', hlt, _⟩ := HL6.out.at_.lB (by rw [HN.out]; omega)
  rw [e'] at e
  cases e
  have hb : b = gr := hb.1
  omega
 have HOB := hid hob
 have HLb := hid hL7.at_.lB
 have lmr : gm < gr := by have := HH6.out.here; omega
 have lwr : w.heap.size ≤ gr := by omega
 have HSO := hid (solve_c (R := [rowD]) (T := []) (tv := .slice none 0 0) (m := 1) (q := 0) HLw.out HN.out (by omega) (by omega) HBP.out HBI.out ⟨rfl, .inr ⟨_, rfl, hcr, hcr2, hrow⟩⟩ hgrw ⟨rfl, .inl ⟨rfl, rfl⟩⟩
  (fun r hr => by
   obtain rfl : r = rowD := by simpa using hr
   refine ⟨⟨?_, ⟨?_, ?_⟩, ⟨?_, ?_⟩, ⟨?_, ?_⟩, ?_, ?_, ?_, ?_, ?_⟩, by decide, by decide⟩ <;> (unfold rowD I64; simp))
  (fun t ht => absurd ht (by simp)) (by omega) (by omega))
 clear hrr hown b7 hob hl1 hgr hcr hcr2 hrow hL7 HRW HL6 HH6 HH5 K6 EW6
 have c5 : w7.cell? ⟨gm, 5, none⟩ = some (.slice ob 2 cb) := HH7.out.at_ 5
 go_wp2_with fail
 refine HSO.out.mono ?_
 rintro e w8 ⟨g2, cb2, L2, rfl, _, _, hg2, hs2, hb2, hr2, k8, _⟩
 have hs2' := hs2
 rw [← EL.out] at hs2'
 obtain ⟨a1, q1, f1, a2, q2, f2, eL2⟩ := same_dots hs2'
 have hv1 := solve_fit1 a1 a2 q1 q2 f1 f2
 have hv2 := solve_fit2 a1 a2 q1 q2 f1 f2
 rw [← eL2] at hv1 hv2
 obtain ⟨x1, x2, ex, _, ex2⟩ := map_two hv1
 obtain ⟨⟨A, B, key, n, ra, rb, gn, gt, po, N, T⟩, er, ef⟩ := map_one hv2
 simp only [Prod.mk.injEq] at ef ex2
 obtain ⟨rfl, rfl, rfl, rfl, rfl⟩ := ef
 have hr2 := hr2 (by omega)
 rw [ex] at hb2
 rw [er] at hr2
 have c3 : w8.cell? ⟨g2, 1 * 11 + 3, none⟩ = some (.int .i64 6442450943) := RowL.at1 encB_len hb2 (i := 1) (x := x2) rfl (by rw [← ex2.2]; rfl)
 have c12 : w8.cell? ⟨gr, 0 * 14 + 12, none⟩ = some (.int .i64 33732594286) := RowL.at1 encR_len hr2 (i := 0) rfl rfl
 simp at c3 c12
 have HH8 := hid (HH7.out.bub k8 (by omega))
 have HCN := hid (contacts_c (tk := 0) (nb := 3) (nj := 1) (gx := 0) (gy := 0) (w := w8) (L := L) (ao := ob) (n := 2) (cb := cb) (oj := oj) (nj' := 0) (cj := cj) (oc := oc) (nc := 0) (cc := cc) (cr := cr) HN.out (HLb.out.bub k8 (fun _ => HOB.out)) (by omega) hr2.lsT (m := 1) rfl (by omega) (fun r hr => by
  obtain rfl := List.mem_singleton.1 hr
  exact ⟨by show 0 < 2; omega, by show 1 < 2; omega⟩))
 have B8 : Hid (Below w.heap.size w w8) := BuB.below_ B7.out k8 B7.out.size (fun b hb => by have hb : b = gr := hb.1; omega)
 have HK1 : Hid (∀ K, K = keepS L [⟨0, 1, 0, n, ra, rb, gn, gt, po, 33732594286, 0⟩] → K.length = 1) := fun K e => by
  rw [e, ← EL.out]; rfl
 clear hs2 hs2' hb2 hr2 k8 hv1 hv2 eL2 ex er ex2 HSO c5 HOB HLb HH7 B7
 have b0 := HH8.out.at_ 0
 have b1 := HH8.out.at_ 1
 have b2 := HH8.out.at_ 2
 have b3 := HH8.out.at_ 3
 have b4 := HH8.out.at_ 4
 have b5 := HH8.out.at_ 5
 have b6 := HH8.out.at_ 6
 have b7 := HH8.out.at_ 7
 simp at b0 b1 b2 b3 b4 b5 b6 b7
 have l8 : gm < w8.heap.size := HH8.out.here
 go_wp2_with fail
 refine HCN.out.mono ?_
 rintro e w9 ⟨oq, cq, K, rfl, hK, _, k9⟩
 have hK1 := HK1.out K hK
 rw [hK1]
 have B9 := hid (B8.out.trans (k9.1.mono B8.out.size))
 clear hK hK1 k9
 go_wp2_with fail
 go_ret
 exact ⟨rfl, B9.out⟩
end Go.Proofs.YtcfphdcinihdbaaGreat.Fx
/- Package solve: Solve without rows and ties; the statements' same. -/
namespace Go.Proofs.YtcfphdcinihdbaaGreat.Fx
open Go.ChangeShapes Go.WideShapes Go.ChangeAt Go.RowKit
set_option linter.unusedVariables false
theorem same_bds {L B' : List Bd} {v : World} (hs : SameBs L B') (hI : ∀ b ∈ L, BdI b) (hS : ∀ b ∈ B', Sl v b.ao b.n b.f) : BdsIn v B' := fun b hb => by
 obtain ⟨b0, hb0, h⟩ := same_in hs hb
 exact ⟨hS b hb, h.bdI (hI b0 hb0)⟩
theorem solve_n {X : Nat → Prop} {L : List Bd} {ob : Option Addr} {n cb : Nat} {w : World} (hL : WLs X w ob cb L none 0 [] none 0 []) (hn : L.length = n) (h0 : 0 < n) (hmx : n ≤ 1073741824) (hP : ∀ b ∈ L, BodyP b) (hI : ∀ b ∈ L, BdI b) :
  Calls Tryz.prog 30 #[.slice ob n cb, .slice none 0 0, .slice none 0 0] w fun e v => ∃ ob' cb' B', e = .returned (.slice ob' n cb') ∧ SameBs L B' ∧ LsT encB 11 v ob' B' ∧ BdsIn v B' ∧ Below w.heap.size w v := by
 obtain ⟨b0, off0, e0, hlt, _⟩ := hL.at_.lB (by omega)
 refine (solve_c (R := []) (T := []) (m := 0) (q := 0) (gr := b0) (tR := 56) hL hn h0 hmx hP hI ⟨rfl, .inl ⟨rfl, rfl⟩⟩ hlt ⟨rfl, .inl ⟨rfl, rfl⟩⟩ (fun r hr => absurd hr (by simp)) (fun t ht => absurd ht (by simp)) (by omega) (by omega)).mono ?_
 rintro e v ⟨gb, cb', B', rfl, h1, h2, h3, hs, hr, _, k, hsl⟩
 rw [solve_none (fun b hb => by
  obtain ⟨b0, hb0, h⟩ := same_in hs hb
  exact h.ok (hP b0 hb0))] at hr
 exact ⟨_, cb', B', rfl, hs, hr.lsT, same_bds hs hI hsl, BuB.below (k.up (fun b _ h => absurd h.2 (by omega)))⟩
theorem solve_0 {ob : Option Addr} {cb : Nat} {w : World} (ho : SlOk ob 0 cb) :
  Calls Tryz.prog 30 #[.slice ob 0 cb, .slice none 0 0, .slice none 0 0] w fun e v => ∃ ob' cb', e = .returned (.slice ob' 0 cb') ∧ Below w.heap.size w v := by
 have hL : WLs Nil0 w ob cb [] none 0 [] none 0 [] := by
  have e := ls_new Nil0 w
  exact ⟨⟨fun h => absurd h (by simp), e.at_.lJ, e.at_.lC, e.at_.sB, e.at_.iJ, e.at_.iC⟩, ho, e.okJ, e.okC, fun h => absurd h (by simp), e.offJ, e.offC, e.offP, e.okP⟩
 have HC := hid (copied_c hL rfl (Nat.zero_le _) (fun b hb => absurd hb (by simp)))
 clear hL ho
 go_enter Tryz.func30, Tryz.ntmps30
 go_wp2_with fail
 refine HC.out.mono ?_
 rintro e w1 ⟨ob', cb', B', rfl, k1, hs, hB, hMi⟩
 have hB0 : B' = [] := List.length_eq_zero_iff.1 hs.1
 subst hB0
 have HW := hid (weighed_c (w := w1) rfl hB.ls ⟨hB.nc, hB.cm, hB.ok⟩ (fun b hb => absurd hb (by simp)) (fun b hb => absurd hb (by simp)) (fun b hb => absurd hb (by simp)) (Nat.zero_le _))
 have K1 := hid k1
 clear HC hs hB hMi k1
 go_wp2_with fail
 refine HW.out.mono ?_
 rintro e w2 ⟨om, cm, rfl, k2, _⟩
 have B2 : Hid (Below w.heap.size w w2) := K1.out.1.trans (k2.mono K1.out.1.size)
 clear HW k2
 go_upto_region 2 with fail
 obtain ⟨W2, e2⟩ : ∃ W, W = w2.alloc (.cells #[.slice ob' 0 cb', .slice om 0 cm] 97) := ⟨_, rfl⟩
 obtain ⟨g7, eg7⟩ : ∃ g, w2.heap.size = g := ⟨_, rfl⟩
 have HV : Hid (Has W2 g7 97 #[.slice ob' 0 cb', .slice om 0 cm]) := by unfold Hid; rw [e2, ← eg7]; exact has_new _ _ _
 have B3 : Hid (Below w.heap.size w W2) := B2.out.trans (by rw [e2]; exact ((Made.rfl_ _ _).cells (Nat.le_refl _) _ _).1.mono B2.out.size)
 try rw [← e2]
 try rw [eg7]
 clear e2 eg7 B2 K1
 refine reg_made (by kernel_rfl) (by kernel_rfl) ?_
 intro T hT f hf
 have c0 := Class.reads hf (p := ⟨g7, 0, none⟩) (u := .slice ob' 0 cb') (by rw [HV.out.at_]; rfl)
 have c1 := Class.reads hf (p := ⟨g7, 1, none⟩) (u := .slice om 0 cm) (by rw [HV.out.at_]; rfl)
 repeat (go_big_quiet_step ((first
  | (go_at_call 73; with_reducible exact hf.made (presses_nil _ _ _))
  | (go_at_call 74; with_reducible exact hf.made (holds_nil _ _ _)))))
 refine wpQuiet_nil ?_
 intro w3 h3
 have k3 := hf.here h3
 have HV3 := hid (HV.out.stays k3 HV.out.here)
 have B4 : Hid (Below w.heap.size w w3) := B3.out.trans (k3.1.mono B3.out.size)
 clear hf h3 k3 HV B3 c0 c1
 have c0 : w3.cell? ⟨g7, 0, none⟩ = some (.slice ob' 0 cb') := by rw [HV3.out.at_]; rfl
 go_wp2_with fail
 go_loopg [11, 28] 0 (fun gg s11 s28 wx => s28 = .int .i64 0 ∧ Hid (Below w.heap.size w wx) ∧ Hid (Has wx g7 97 #[.slice ob' 0 cb', .slice om 0 cm]))
 case atStart => exact ⟨by first | rfl | trivial, B4.out, HV3.out⟩
 case round =>
  clear c0 B4 HV3
  obtain ⟨rfl, B5, H5⟩ := hrel
  go_wp2_with fail
  go_loopg [35] 8 (fun gg s35 wx => ∃ t : Nat, t + gg = 8 ∧ s35 = .int .i64 (t : Nat) ∧ Hid (Below w.heap.size w wx) ∧ Hid (Has wx g7 97 #[.slice ob' 0 cb', .slice om 0 cm]))
  case atStart => exact ⟨0, by omega, by first | rfl | trivial, B5.out, H5.out⟩
  case round =>
   clear B5 H5
   obtain ⟨t, ht, rfl, B6, H6⟩ := hrel
   by_cases ht8 : t < 8
   ·have ht8' : (t : Int) < 8 := by omega
    go_wp2_with fail
    go_loopg [13, 39] 0 (fun gg s13 s39 wx => s39 = .int .i64 0 ∧ Hid (Below w.heap.size w wx) ∧ Hid (Has wx g7 97 #[.slice ob' 0 cb', .slice om 0 cm]))
    case atStart => exact ⟨by first | rfl | trivial, B6.out, H6.out⟩
    case round =>
     clear B6 H6
     obtain ⟨rfl, B7, H7⟩ := hrel
     go_wp2_with fail
     go_loopg [15, 48] 0 (fun gg s15 s48 wx => s48 = .int .i64 0 ∧ Hid (Below w.heap.size w wx) ∧ Hid (Has wx g7 97 #[.slice ob' 0 cb', .slice om 0 cm]))
     case atStart => exact ⟨by first | rfl | trivial, B7.out, H7.out⟩
     case round =>
      clear B7 H7
      obtain ⟨rfl, B8, H8⟩ := hrel
      go_wp2_with fail
      go_roundg (8 - (t + 1))
      case measure => omega
      case rel => exact ⟨t + 1, by omega, by go_num, B8.out, H8.out⟩
   ·have e : t = 8 := by omega
    subst e
    have c0 : wr.cell? ⟨g7, 0, none⟩ = some (.slice ob' 0 cb') := by rw [H6.out.at_]; rfl
    go_wp2_with fail
    go_loopg [16, 61] 0 (fun gg s16 s61 wx => s61 = .int .i64 0 ∧ Hid (Below w.heap.size w wx) ∧ Hid (Has wx g7 97 #[.slice ob' 0 cb', .slice om 0 cm]))
    case atStart => exact ⟨by first | rfl | trivial, B6.out, H6.out⟩
    case round =>
     clear B6 H6 c0
     obtain ⟨rfl, B9, H9⟩ := hrel
     have c0 : wr.cell? ⟨g7, 0, none⟩ = some (.slice ob' 0 cb') := by rw [H9.out.at_]; rfl
     go_wp2_with fail
     go_ret
     exact ⟨ob', cb', rfl, B9.out⟩
theorem solve_nil {X : Nat → Prop} {L : List Bd} {ob : Option Addr} {n cb : Nat} {w : World} (hL : WLs X w ob cb L none 0 [] none 0 []) (hn : L.length = n) (hmx : n ≤ 1073741824) (hP : ∀ b ∈ L, BodyP b) (hI : ∀ b ∈ L, BdI b) :
  Calls Tryz.prog 30 #[.slice ob n cb, .slice none 0 0, .slice none 0 0] w fun e v => ∃ ob' cb' B', e = .returned (.slice ob' n cb') ∧ SameBs L B' ∧ LsT encB 11 v ob' B' ∧ BdsIn v B' ∧ Below w.heap.size w v := by
 by_cases h0 : 0 < n
 ·exact solve_n hL hn h0 hmx hP hI
 ·have e : n = 0 := by omega
  subst e
  have eL : L = [] := List.length_eq_zero_iff.1 hn
  subst eL
  refine (solve_0 hL.okB).mono ?_
  rintro e v ⟨ob', cb', rfl, k⟩
  exact ⟨ob', cb', [], rfl, ⟨rfl, fun i b b' h => by simp at h⟩, fun h => absurd h (by simp), fun b hb => absurd hb (by simp), k⟩
end Go.Proofs.YtcfphdcinihdbaaGreat.Fx
/- SolveNone. -/
namespace Go.Proofs.YtcfphdcinihdbaaGreat.Fx
open Go.ChangeShapes Go.WideShapes Go.ChangeAt Go.RowKit
set_option linter.unusedVariables false
theorem des_blw {w v : World} {ao : Option Addr} {l : List De} (h : DesAt w ao l) (k : Below w.heap.size w v) : DesAt v ao l :=
 ⟨h.1.below k, fun d hd => ⟨(h.2 d hd).1, Sl.blw (h.2 d hd).2 k⟩⟩
theorem lsame_c {ob ob' : Option Addr} {n n' cb cb' : Nat} {B B' : List Bd} {w : World} (hB : LsT encB 11 w ob B) (hS : BdsIn w B) (hn : B.length = n) (hmx : n ≤ 1073741824) (h8 : ∀ b ∈ B, b.n ≤ 1073741824) (hB' : LsT encB 11 w ob' B') (hS' : BdsIn w B') (hn' : B'.length = n') (he : EqBs B B') :
  Calls Tryz.prog 31 #[.slice ob n cb, .slice ob' n' cb'] w fun e v => e = .returned (.bool true) ∧ Made w.heap.size w v := by
 have HW := hid (wsame_c true 0 0 0 0 0 0 0 0 0 0 ob none none ob' none none n cb 0 0 0 0 n' cb' 0 0 0 0 (B := B) (B' := B') (J := []) (J' := []) (C := []) (C' := []) (w := w) ⟨hB, fun h => absurd h (by simp), fun h => absurd h (by simp), hS, fun j hj => absurd hj (by simp), fun j hj => absurd hj (by simp)⟩ ⟨hB', fun h => absurd h (by simp), fun h => absurd h (by simp), hS', fun j hj => absurd hj (by simp), fun j hj => absurd hj (by simp)⟩ ⟨hn, rfl, rfl⟩ ⟨hn', rfl, rfl⟩ ⟨hmx, Nat.zero_le _, Nat.zero_le _⟩ h8 ⟨fun _ => ⟨rfl, rfl, rfl, ⟨rfl, rfl⟩, he, rfl, rfl⟩, fun _ => rfl⟩)
 clear hB hS hn h8 hB' hS' hn' he
 go_enter Tryz.func31, Tryz.ntmps31
 go_wp2_with fail
 refine HW.out.mono ?_
 rintro e v ⟨rfl, k⟩
 go_wp2_with fail
 go_ret
 exact ⟨rfl, k⟩
theorem still_ok {t : Nat} (ht : t < 2) : BodyP ⟨0, (t : Int) * 4294967296, 0, 0, 0, 0, 0, 0, 1, 4294967296, none, 0, 0, fun _ => (0, 0)⟩ :=
 ⟨.inl ⟨rfl, rfl, (by show (16777216 : Int) ≤ 4294967296; decide), (by show (4294967296 : Int) ≤ 274877906944; decide)⟩, by unfold Inn; simp only; omega, by unfold Inn; simp, by unfold Inn; simp, by unfold Inn; simp, by unfold Inn; simp, by simp, ⟨by simp, by simp⟩, fun _ => ⟨rfl, rfl, rfl⟩⟩
theorem still_i {t : Nat} (ht : t < 2) : BdI ⟨0, (t : Int) * 4294967296, 0, 0, 0, 0, 0, 0, 1, 4294967296, none, 0, 0, fun _ => (0, 0)⟩ :=
 ⟨i64_0, by show I64 ((t : Int) * 4294967296); unfold I64; omega, i64_0, i64_0, i64_0, i64_0, i64_0, i64_0, by show I64 1; unfold I64; omega, by show I64 4294967296; unfold I64; omega, fun i hi => absurd hi (by simp)⟩
theorem snone_c (l : List De) (l0 : Option Addr) (nl cl : Nat) (X Y : Int) (w : World) (hnl : l.length = nl) (hD : DesAt w l0 l) (hnc : nl ≤ cl) (hcm : cl ≤ maxLen) (ho : (l0 = none ∧ nl = 0 ∧ cl = 0) ∨ ∃ a, l0 = some a) (hX : I64 X) (hY : I64 Y) :
  Calls Tryz.prog 8 #[.slice l0 nl cl, vecV X Y] w fun e v => e = .returned (.bool true) ∧ Below w.heap.size w v := by
 have HMd := hid (fun v (k : Below w.heap.size w v) => made_c 8 (by omega) hnl (des_blw hD k) hnc hcm ho)
 clear hnl hD hnc hcm ho
 obtain ⟨W0, eW⟩ : ∃ W, W = w.alloc (.cells #[.int .i64 X, .int .i64 Y] 27) := ⟨_, rfl⟩
 have K0 : Hid (Below w.heap.size w W0) := by unfold Hid; rw [eW]; exact ((Made.rfl_ _ _).cells (Nat.le_refl _) _ _).1
 have HN0 : Hid (Has W0 w.heap.size 27 #[.int .i64 X, .int .i64 Y]) := by unfold Hid; rw [eW]; exact has_new _ _ _
 obtain ⟨g0, eg0⟩ : ∃ g, w.heap.size = g := ⟨_, rfl⟩
 rw [eg0] at HN0
 go_enter Tryz.func8, Tryz.ntmps8
 go_upto_region 1 with fail
 rw [← eW]
 clear eW
 try rw [eg0]
 go_wp2_with fail
 refine (fit11_c _).mono ?_
 rintro e w1 ⟨rfl, k1⟩
 have K1 : Hid (Below w.heap.size w w1) := K0.out.trans (k1.mono K0.out.size)
 have HN1 := hid (HN0.out.below k1 HN0.out.here)
 clear k1 K0 HN0
 go_wp2_with fail
 refine (HMd.out _ K1.out).mono ?_
 rintro e w2 ⟨P, val, rfl, ⟨ob, oj, oc, cb, cj, cc, rfl, hL⟩, ok, sm, k2⟩
 have K2 : Hid (Below w.heap.size w w2) := K1.out.trans (k2.1.mono K1.out.size)
 have HN2 := hid (HN1.out.stays k2 HN1.out.here)
 have hC0 : P.C.length = 0 := by rw [sm.1]; rfl
 obtain ⟨nB, eB⟩ : ∃ m, P.B.length = m := ⟨_, rfl⟩
 obtain ⟨nJ, eJ⟩ : ∃ m, P.J.length = m := ⟨_, rfl⟩
 obtain ⟨nb, enb⟩ : ∃ m, P.nb = m := ⟨_, rfl⟩
 obtain ⟨nj, enj⟩ : ∃ m, P.nj = m := ⟨_, rfl⟩
 rw [eB, eJ, hC0, enb, enj]
 have hnB : nB ≤ 8 := by rw [← eB]; exact sm.2.1
 obtain ⟨W3, eW3⟩ : ∃ W, W = w2.alloc (.cells #[.int .i64 0, .int .i64 nb, .int .i64 nj, .int .i64 0, .int .i64 0, .slice ob nB cb, .slice oj nJ cj, .slice oc 0 cc] 32) := ⟨_, rfl⟩
 obtain ⟨g5, eg5⟩ : ∃ g, w2.heap.size = g := ⟨_, rfl⟩
 have k3 : Made w2.heap.size w2 W3 := by rw [eW3]; exact (Made.rfl_ _ _).cells (Nat.le_refl _) _ _
 have HW3 : Hid (Has W3 g5 32 #[.int .i64 0, .int .i64 nb, .int .i64 nj, .int .i64 0, .int .i64 0, .slice ob nB cb, .slice oj nJ cj, .slice oc 0 cc]) := by unfold Hid; rw [eW3, ← eg5]; exact has_new _ _ _
 have K3 : Hid (Below w.heap.size w W3) := K2.out.trans (k3.1.mono K2.out.size)
 have HN3 := hid (HN2.out.stays k3 HN2.out.here)
 have hL3 := hL.kept k3
 have hLn : WLs Nil0 W3 ob cb P.B none 0 [] none 0 [] := by
  have e := ls_new Nil0 W3
  exact ⟨⟨hL3.at_.lB, e.at_.lJ, e.at_.lC, hL3.at_.sB, e.at_.iJ, e.at_.iC⟩, hL3.okB, e.okJ, e.okC, hL3.offB, e.offJ, e.offC, hL3.offP, hL3.okP⟩
 have hbi : ∀ b ∈ P.B, BdI b := fun b hb => (hL3.at_.sB b hb).2
 have HSo := hid (solve_nil hLn eB (by omega) ok.hB.all hbi)
 have HLB := hid (And.intro hL3.at_.lB hL3.at_.sB)
 have HOB := hid hL3.okB
 have HBP := hid ok.hB; have HEB := hid eB; have HBI := hid hbi
 clear hL ok sm k2 k3 hL3 hLn hbi hC0 eB eJ enb enj K1 HN1 K2 HN2 HMd
 have c5 : W3.cell? ⟨g5, 5, none⟩ = some (.slice ob nB cb) := HW3.out.at_ 5
 go_upto_region 4 with fail
 try rw [← eW3]
 try rw [eg5]
 clear eW3 eg5
 go_wp2_with fail
 refine HSo.out.mono ?_
 rintro e w4 ⟨ob', cb', B', rfl, hs, hlb, hsb, k4⟩
 have K4 : Hid (Below w.heap.size w w4) := K3.out.trans (k4.mono K3.out.size)
 have HN4 := hid (HN3.out.below k4 HN3.out.here)
 have HW4 := hid (HW3.out.below k4 HW3.out.here)
 have hLB4 : LsT encB 11 w4 ob P.B := HLB.out.1.below k4
 have hSB4 : BdsIn w4 P.B := fun b hb => ⟨Sl.blw (HLB.out.2 b hb).1 k4, (HLB.out.2 b hb).2⟩
 have HSm := hid (lsame_c (cb := cb') (cb' := cb) hlb hsb (hs.1.trans HEB.out) (by omega) (fun b hb => by
  obtain ⟨b0, hb0, h⟩ := same_in hs hb
  have := right_n (h.ok (HBP.out.all b0 hb0)).shape
  omega) hLB4 hSB4 HEB.out hs.eq.symm)
 have HL4 := hid hLB4; have HS4 := hid hSB4
 clear hs hlb hsb k4 HSo c5 hLB4 hSB4 HLB K3 HN3 HW3
 have c5 : w4.cell? ⟨g5, 5, none⟩ = some (.slice ob nB cb) := HW4.out.at_ 5
 go_wp2_with fail
 refine HSm.out.mono ?_
 rintro e w5 ⟨rfl, k5⟩
 have K5 : Hid (Below w.heap.size w w5) := K4.out.trans (k5.1.mono K4.out.size)
 have HN5 := hid (HN4.out.stays k5 HN4.out.here)
 have HW5 := hid (HW4.out.stays k5 HW4.out.here)
 have HL5 := hid (HL4.out.kept k5)
 have HS5 := hid (HS4.out.kept k5)
 have HRw := hid (rows_c (fun _ _ => none) (tk := 0) (nb := nb) (nj := nj) (gx := 0) (gy := 0) (oj := oj) (nj' := nJ) (cj := cj) (oc := oc) (nc := 0) (cc := cc) (C := []) (cp := 0) (op := none) (Ps := []) (np := 0) (w := w5) HEB.out HL5.out (by rw [← HEB.out]; exact HOB.out) HBI.out HBP.out.all (fun b hb => (HS5.out b hb).1) (by omega) HBP.out.num.2.2.1 (fun h => absurd h (by simp)) rfl (Nat.zero_le _) List.Pairwise.nil (fun c hc => absurd hc (by simp)) (fun h => absurd h (by simp)) rfl (Nat.zero_le _) (fun h => absurd h (by omega)) (fun h => absurd h (by omega)))
 clear k5 K4 HN4 HW4 HL4 HS4 HSm c5
 have b0 := HW5.out.at_ 0
 have b1 := HW5.out.at_ 1
 have b2 := HW5.out.at_ 2
 have b3 := HW5.out.at_ 3
 have b4 := HW5.out.at_ 4
 have b5 := HW5.out.at_ 5
 have b6 := HW5.out.at_ 6
 have b7 := HW5.out.at_ 7
 simp at b0 b1 b2 b3 b4 b5 b6 b7
 have l5 : g5 < w5.heap.size := HW5.out.here
 go_wp2_with fail
 refine HRw.out.mono ?_
 rintro e w6 ⟨orr, cr, R, rfl, hr, _, k6⟩
 have hR0 : R = [] := by
  generalize e2 : ([] : List (Int × Int)) = l2 at hr
  cases hr with
  | nil => rfl
  | snoc _ _ =>
   have := congrArg List.length e2
   simp at this
 subst hR0
 have K6 : Hid (Below w.heap.size w w6) := K5.out.trans (k6.mono K5.out.size)
 have HN6 := hid (HN5.out.below k6 HN5.out.here)
 have HW6 := hid (HW5.out.below k6 HW5.out.here)
 have HCt := hid (contacts_c (tk := 0) (nb := nb) (nj := nj) (gx := 0) (gy := 0) (oj := oj) (nj' := nJ) (cj := cj) (cb := cb) (oc := oc) (nc := 0) (cc := cc) (cr := 0) (ar := none) (R := []) (m := 0) (w := w6) HEB.out (HL5.out.below k6) (by omega) (fun h => absurd h (by simp)) rfl (Nat.zero_le _) (fun r hr => absurd hr (by simp)))
 clear hr k6 K5 HN5 HW5 HL5 HS5 HRw b0 b1 b2 b3 b4 b5 b6 b7 l5
 have b0 := HW6.out.at_ 0
 have b1 := HW6.out.at_ 1
 have b2 := HW6.out.at_ 2
 have b3 := HW6.out.at_ 3
 have b4 := HW6.out.at_ 4
 have b5 := HW6.out.at_ 5
 have b6 := HW6.out.at_ 6
 have b7 := HW6.out.at_ 7
 simp at b0 b1 b2 b3 b4 b5 b6 b7
 have l5 : g5 < w6.heap.size := HW6.out.here
 go_wp2_with fail
 refine HCt.out.mono ?_
 rintro e w7 ⟨oq, cq, K, rfl, hK, _, k7⟩
 have hK0 : K = [] := hK
 subst hK0
 have K7 : Hid (Below w.heap.size w w7) := K6.out.trans (k7.1.mono K6.out.size)
 have HN7 := hid (HN6.out.stays k7 HN6.out.here)
 clear hK k7 K6 HN6 HW6 HCt b0 b1 b2 b3 b4 b5 b6 b7 l5 HEB HOB HBP HBI hnB
 go_wp2_with fail
 refine (new_c _).mono ?_
 rintro e w8 ⟨rfl, k8⟩
 have K8 : Hid (Below w.heap.size w w8) := K7.out.trans (k8.1.mono K7.out.size)
 have HN8 := hid (HN7.out.stays k8 HN7.out.here)
 clear k8 K7 HN7
 go_upto_region 8 with fail
 obtain ⟨W9, e9⟩ : ∃ W, W = w8.alloc (.cells #[.int .i64 0, .int .i64 1, .int .i64 1, .int .i64 0, .int .i64 0, .slice none 0 0, .slice none 0 0, .slice none 0 0] 32) := ⟨_, rfl⟩
 obtain ⟨gx, egx⟩ : ∃ g, w8.heap.size = g := ⟨_, rfl⟩
 have k9 : Made w8.heap.size w8 W9 := by rw [e9]; exact (Made.rfl_ _ _).cells (Nat.le_refl _) _ _
 have HG9 : Has W9 gx 32 #[.int .i64 0, .int .i64 1, .int .i64 1, .int .i64 0, .int .i64 0, .slice none 0 0, .slice none 0 0, .slice none 0 0] := by rw [e9, ← egx]; exact has_new _ _ _
 have K9 : Hid (Below w.heap.size w W9) := K8.out.trans (k9.1.mono K8.out.size)
 have HN9 := hid (HN8.out.stays k9 HN8.out.here)
 have hgx : w.heap.size ≤ gx := by rw [← egx]; exact K8.out.size
 have hg0x : g0 < gx := by rw [← egx]; exact HN8.out.here
 have HV9 : Hid (WV (fun b => b = gx) W9 gx ⟨1, 1, [], [], []⟩) := ⟨none, none, none, 0, 0, 0, HG9, ls_new _ _⟩
 rw [← e9]
 try rw [egx]
 clear e9 egx k9 HG9 K8 HN8
 go_wp2_with fail
 go_loopg [36] 2 (fun gg s36 wx => ∃ t : Nat, t + gg = 2 ∧ s36 = .int .i64 (t : Nat) ∧ Hid (∃ P : PW, WV (fun b => b = gx) wx gx P ∧ POk P ∧ P.nb = 1 + t ∧ P.B.length = t ∧ P.nj = 1 ∧ P.J = [] ∧ P.C = [] ∧ ∀ b ∈ P.B, StillB b ∧ b.n = 0) ∧ Hid (But (fun b => b = gx) W9 wx))
 case atStart => exact ⟨0, by omega, by first | rfl | trivial, ⟨_, HV9.out, ok_new, rfl, rfl, rfl, rfl, rfl, fun b hb => absurd hb (by simp)⟩, But.rfl_ _ _⟩
 case round =>
  clear HV9
  obtain ⟨t, ht, rfl, HP, HK⟩ := hrel
  by_cases ht2 : t < 2
  ·obtain ⟨P, hv, hok, hnb, hlen, hnj, hJ, hC, hst⟩ := HP.out
   have HA := hid (addDot (X := fun b => b = gx) (P := P) ⟨0, (t : Int) * 4294967296, 0, 0, 0, 0, 0, 0, 1, 4294967296, none, 0, 0, fun _ => (0, 0)⟩ (still_ok ht2) (still_i ht2) rfl ⟨rfl, rfl, rfl⟩ hv hok rfl (fun b hb => by have hb : b = gx := hb; rw [hb]; exact WVar.here hv) (by omega) (by omega))
   have HP1 : Hid (∀ v ao c, WV (fun b => b = gx) v gx ⟨P.nb + 1, P.nj, P.B ++ [newB P.nb ⟨0, (t : Int) * 4294967296, 0, 0, 0, 0, 0, 0, 1, 4294967296, none, 0, 0, fun _ => (0, 0)⟩ ao c], P.J, P.C⟩ → POk ⟨P.nb + 1, P.nj, P.B ++ [newB P.nb ⟨0, (t : Int) * 4294967296, 0, 0, 0, 0, 0, 0, 1, 4294967296, none, 0, 0, fun _ => (0, 0)⟩ ao c], P.J, P.C⟩ → ∃ P : PW, WV (fun b => b = gx) v gx P ∧ POk P ∧ P.nb = 1 + ((t + 1 : Nat) : Int) ∧ P.B.length = t + 1 ∧ P.nj = 1 ∧ P.J = [] ∧ P.C = [] ∧ ∀ b ∈ P.B, StillB b ∧ b.n = 0) := fun v ao c h1 h2 => ⟨_, h1, h2, by show P.nb + 1 = _; omega, by show (P.B ++ _).length = _; rw [List.length_append, hlen]; rfl, hnj, hJ, hC, fun b hb => by
    rcases List.mem_append.1 hb with hb | hb
    ·exact hst b hb
    ·obtain rfl := List.mem_singleton.1 hb
     exact ⟨⟨Int.le_refl _, rfl, rfl, rfl⟩, rfl⟩⟩
   clear hv hok hnb hlen hnj hJ hC hst HP
   rcases (show t = 0 ∨ t = 1 by omega) with rfl | rfl
   ·have e1 : ((0 : Nat) : Int) * 4294967296 = 0 := rfl
    rw [e1] at HA HP1
    go_wp2_with fail
    refine HA.out.mono ?_
    rintro e v ⟨rfl, kb, ao, c, h1, h2⟩
    have HP2 := hid (HP1.out v ao c h1 h2)
    have HK2 := hid (HK.out.then_ kb)
    clear kb h1 h2 HA HP1 HK e1
    go_wp2_with fail
    go_roundg 1
    case measure => omega
    case rel => exact ⟨1, by omega, by go_num, HP2.out, HK2.out⟩
   ·have e1 : ((1 : Nat) : Int) * 4294967296 = 4294967296 := rfl
    rw [e1] at HA HP1
    go_wp2_with fail
    refine HA.out.mono ?_
    rintro e v ⟨rfl, kb, ao, c, h1, h2⟩
    have HP2 := hid (HP1.out v ao c h1 h2)
    have HK2 := hid (HK.out.then_ kb)
    clear kb h1 h2 HA HP1 HK e1
    go_wp2_with fail
    go_roundg 0
    case measure => omega
    case rel => exact ⟨2, by omega, by go_num, HP2.out, HK2.out⟩
  ·have e : t = 2 := by omega
   subst e
   obtain ⟨P, hv, hok, hnb, hlen, hnj, hJ, hC, hst⟩ := HP.out
   obtain ⟨ob2, oj2, oc2, cb2, cj2, cc2, hH, hL⟩ := hv
   rw [hlen] at hH
   have K10 : Hid (Below w.heap.size w wr) := BuB.below_ K9.out HK.out.bub K9.out.size (fun b hb => by have hb : b = gx := hb; omega)
   have HN10 := hid (HN9.out.but HK.out (by omega))
   have HH10 := hid hH; have HL10 := hid hL
   have HST := hid hst; have HLen := hid hlen; have HOK := hid hok.hB.all
   clear hH hL hst hlen hok hnb hnj hJ hC HP HK K9 HN9
   obtain ⟨NX, eNX⟩ : ∃ z, bringF X (negF 4294967296) 4294967296 = z := ⟨_, rfl⟩
   obtain ⟨NY, eNY⟩ : ∃ z, bringF Y (negF 4294967296) 4294967296 = z := ⟨_, rfl⟩
   have iNX : I64 NX := by rw [← eNX]; exact i64_bring hX (i64_neg (by unfold I64; omega)) (by unfold I64; omega)
   have iNY : I64 NY := by rw [← eNY]; exact i64_bring hY (i64_neg (by unfold I64; omega)) (by unfold I64; omega)
   have HBr := hid (vbring_is X Y 4294967296 NX NY wr hX hY (by unfold I64; omega) eNX eNY)
   clear eNX eNY
   have n0 : wr.cell? ⟨g0, 0, none⟩ = some (.int .i64 X) := HN10.out.at_ 0
   have n1 : wr.cell? ⟨g0, 1, none⟩ = some (.int .i64 Y) := HN10.out.at_ 1
   go_wp2_with fail
   refine HBr.out.mono ?_
   rintro e w11 ⟨rfl, k11⟩
   have K11 : Hid (Below w.heap.size w w11) := K10.out.trans (k11.1.mono K10.out.size)
   have HH11 := hid (HH10.out.stays k11 HH10.out.here)
   have hL11 := HL10.out.kept k11
   go_upto_region 14 with fail
   obtain ⟨W12, e12⟩ : ∃ W, W = w11.alloc (.cells #[.int .i64 0, .int .i64 1, .int .i64 0, .int .i64 NX, .int .i64 NY, .int .i64 0, .int .i64 0, .int .i64 0, .int .i64 0, .int .i64 4294967296, .int .i64 4294967296, .int .i64 4294967296, .int .i64 0, .int .i64 0] 56) := ⟨_, rfl⟩
   obtain ⟨gr, egr⟩ : ∃ g, w11.heap.size = g := ⟨_, rfl⟩
   have k12 : Made w11.heap.size w11 W12 := by rw [e12]; exact (Made.rfl_ _ _).cells (Nat.le_refl _) _ _
   have hR12 : Has W12 gr 56 #[.int .i64 0, .int .i64 1, .int .i64 0, .int .i64 NX, .int .i64 NY, .int .i64 0, .int .i64 0, .int .i64 0, .int .i64 0, .int .i64 4294967296, .int .i64 4294967296, .int .i64 4294967296, .int .i64 0, .int .i64 0] := by rw [e12, ← egr]; exact has_new _ _ _
   have K12 : Hid (Below w.heap.size w W12) := K11.out.trans (k12.1.mono K11.out.size)
   have HH12 := hid (HH11.out.stays k12 HH11.out.here)
   have hL12 := hL11.kept k12
   have hrow : RowL encR 14 W12 gr 56 1 [⟨0, 1, 0, (NX, NY), (0, 0), (0, 0), 4294967296, 4294967296, 4294967296, 0, 0⟩] := ⟨rfl, #[.int .i64 0, .int .i64 1, .int .i64 0, .int .i64 NX, .int .i64 NY, .int .i64 0, .int .i64 0, .int .i64 0, .int .i64 0, .int .i64 4294967296, .int .i64 4294967296, .int .i64 4294967296, .int .i64 0, .int .i64 0], hR12, Nat.le_refl 14, fun i x hi j u hu => by
    cases i with
    | zero =>
     obtain rfl := Option.some.inj hi
     rw [Nat.zero_mul, Nat.zero_add]
     simpa [encR] using hu
    | succ i => simp at hi⟩
   have hLn : WLs (fun b => b = gx) W12 ob2 cb2 P.B none 0 [] none 0 [] := by
    have e := ls_new (fun b => b = gx) W12
    exact ⟨⟨hL12.at_.lB, e.at_.lJ, e.at_.lC, hL12.at_.sB, e.at_.iJ, e.at_.iC⟩, hL12.okB, e.okJ, e.okC, hL12.offB, e.offJ, e.offC, hL12.offP, hL12.okP⟩
   have hbi : ∀ b ∈ P.B, BdI b := fun b hb => (hL12.at_.sB b hb).2
   have hob : Offs (fun x => x = gr ∧ 0 < 1) ob2 := fun b off s e hb => by
    obtain ⟨b', off', e', hlt, _⟩ := hL11.at_.lB (by rw [HLen.out]; omega)
    rw [e'] at e
    cases e
    have hb : b = gr := hb.1
    omega
   have lgx : gx < gr := by rw [← egr]; exact HH11.out.here
   have lwr : w.heap.size ≤ gr := by rw [← egr]; exact K11.out.size
   have HSo := hid (solve_c (R := [⟨0, 1, 0, (NX, NY), (0, 0), (0, 0), 4294967296, 4294967296, 4294967296, 0, 0⟩]) (T := []) (tv := .slice none 0 0) (m := 1) (q := 0) hLn HLen.out (by omega) (by omega) HOK.out hbi ⟨rfl, .inr ⟨1, rfl, Nat.le_refl _, by unfold maxLen; omega, hrow⟩⟩ hR12.here ⟨rfl, .inl ⟨rfl, rfl⟩⟩
    (fun r hr => by
     obtain rfl := List.mem_singleton.1 hr
     refine ⟨⟨?_, ⟨iNX, iNY⟩, ⟨?_, ?_⟩, ⟨?_, ?_⟩, ?_, ?_, ?_, ?_, ?_⟩, by show 0 < 2; omega, by show 1 < 2; omega⟩ <;> (unfold I64; simp))
    (fun t ht => absurd ht (by simp)) (by omega) (by omega))
   have HBI := hid hbi; have HOb := hid hob; have HLb := hid hL12.at_.lB
   have c5 : W12.cell? ⟨gx, 5, none⟩ = some (.slice ob2 2 cb2) := HH12.out.at_ 5
   try rw [← e12]
   try rw [egr]
   clear e12 egr k12 hR12 hrow hLn hbi hob hL11 hL12 k11 HBr n0 n1 K10 HN10 HH10 HL10 K11 HH11
   go_wp2_with fail
   refine HSo.out.mono ?_
   rintro e w13 ⟨g2, cb3, L2, rfl, _, _, hg2, hs2, hb2, hr2, k13, hsl⟩
   have hst2 : ∀ b ∈ L2, StillB b := fun b hb => by
    obtain ⟨b0, hb0, h⟩ := same_in hs2 hb
    obtain ⟨s0, s1, s2, s3⟩ := (HST.out b0 hb0).1
    obtain ⟨h0, h1, h2, h3, h4, h5, h6, h7, _⟩ := h
    exact ⟨by rw [h7]; exact s0, by rw [h3]; exact s1, by rw [h4]; exact s2, by rw [h6]; exact s3⟩
   rw [solve_static hst2] at hb2
   obtain ⟨hrl, _, hrn⟩ := solve_rows (L := L2) (R := [(⟨0, 1, 0, (NX, NY), (0, 0), (0, 0), 4294967296, 4294967296, 4294967296, 0, 0⟩ : Ro)]) (T := [])
   obtain ⟨q, hq⟩ : ∃ q, (solveS L2 [(⟨0, 1, 0, (NX, NY), (0, 0), (0, 0), 4294967296, 4294967296, 4294967296, 0, 0⟩ : Ro)] []).2[0]? = some q := ⟨_, List.getElem?_eq_getElem (by rw [hrl]; exact Nat.zero_lt_one)⟩
   have hqn := hrn q (List.mem_of_getElem? hq)
   have c12 : w13.cell? ⟨gr, 0 * 14 + 12, none⟩ = some (.int .i64 q.N) := RowL.at1 encR_len (hr2 (by omega)) hq rfl
   simp at c12
   obtain ⟨qN, eqN⟩ : ∃ z, q.N = z := ⟨_, rfl⟩
   rw [eqN] at c12 hqn
   have K13 : Hid (Below w.heap.size w w13) := BuB.below_ K12.out k13 K12.out.size (fun b hb => by have hb : b = gr := hb.1; omega)
   have HH13 := hid (HH12.out.bub k13 (by omega))
   have HSm := hid (lsame_c (cb := cb3) (cb' := cb2) (B := L2) (B' := P.B) (n := 2) (n' := 2) hb2.lsT (same_bds hs2 HBI.out hsl) (hs2.1.trans HLen.out) (by omega) (fun b hb => by
    obtain ⟨b0, hb0, h⟩ := same_in hs2 hb
    have := right_n (h.ok (HOK.out b0 hb0)).shape
    omega) (HLb.out.bub k13 (fun _ => HOb.out)) (fun b hb => ⟨fun hn => absurd hn (by have := (HST.out b hb).2; omega), HBI.out b hb⟩) HLen.out hs2.eq.symm)
   clear hg2 hs2 hb2 hr2 k13 hsl hst2 hrl hrn hq eqN HSo HH12 K12 c5 HLb HOb
   have c5 : w13.cell? ⟨gx, 5, none⟩ = some (.slice ob2 2 cb2) := HH13.out.at_ 5
   have hq1 : decide (0 ≤ qN) = true := by simp [hqn]
   have hq2 : decide (qN ≥ 0) = true := by simp [hqn]
   go_wp2_with fail
   refine HSm.out.mono ?_
   rintro e w14 ⟨rfl, k14⟩
   have c12 := k14.reads c12
   have K14 : Hid (Below w.heap.size w w14) := K13.out.trans (k14.1.mono K13.out.size)
   clear k14 K13 HH13 HSm c5
   go_wp2_with fail
   go_ret
   exact ⟨by simp, K14.out⟩
end Go.Proofs.YtcfphdcinihdbaaGreat.Fx
/- What a slice of vectors that came in holds. -/
namespace Go.Proofs.YtcfphdcinihdbaaGreat.Fx
open Go.ChangeShapes Go.WideShapes Go.ChangeAt Go.RowKit Go.Deep
set_option linter.unusedVariables false
section
variable {H : Type} {enc : TypeId × Value → H} {w : World} {base : Nat} {spare : Nat → Bool} {held : Bool}
theorem open_pts {fuel : Nat} {v : Value} {y : DataW H × List MemPlace} (h : DataW.trod enc Tryz.prog w base spare held fuel 41 [v] = some y) :
  ∃ ao len cap f, v = .slice ao len cap ∧ Sl w ao len f ∧ Cin f len := by
 rcases open_slice_pairs Tryz.underlying41 Tryz.underlying27 (by kernel_rfl) rfl rfl (by kernel_rfl) (by kernel_rfl) h with ⟨hcs, _⟩ | ⟨a, len, cap, m, n, V0, V1, D0, D1, P0, P1, hcs, _, _, _, hm, _, hf⟩
 ·simp at hcs
  exact ⟨none, 0, 0, fun _ => (0, 0), hcs, fun h => absurd h (by omega), fun i hi => absurd hi (by omega)⟩
 ·simp at hcs
  have hlm : len ≤ m := by rw [hm]; split <;> omega
  obtain ⟨f, hc⟩ := choose_lt (α := Int × Int) (n := len) (p := fun i x => (w.cell? (a.add (i * 2)) = some (.int .i64 x.1) ∧ w.cell? (a.add (i * 2 + 1)) = some (.int .i64 x.2)) ∧ I64 x.1 ∧ I64 x.2) (fun i hi => by
   obtain ⟨c0, c1, t0, t1⟩ := hf i (by omega)
   obtain ⟨x, ex, _, wx⟩ := DataW.trod_int Tryz.underlying25 t0
   obtain ⟨z, ez, _, wz⟩ := DataW.trod_int Tryz.underlying25 t1
   simp at ex ez
   rw [ex] at c0
   rw [ez] at c1
   exact ⟨(x, z), ⟨c0, c1⟩, I64_wf wx, I64_wf wz⟩)
  refine ⟨some a, len, cap, f, hcs, fun h0 => ?_, fun i hi => (hc i hi).2⟩
  obtain ⟨b, off, spot⟩ := a
  have hspot : spot = none := by simpa [Addr.add] using World.cell?_spot (hc 0 h0).1.1
  subst hspot
  refine ⟨b, off, rfl, fun i hi => ?_⟩
  have := (hc i hi).1
  rw [Addr.add_lit, Addr.add_lit] at this
  exact ⟨this.1, by rw [Nat.add_assoc]; exact this.2⟩
end
end Go.Proofs.YtcfphdcinihdbaaGreat.Fx