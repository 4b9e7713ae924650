/- SoX SpD -/
import Derived.Test.YtjhcejmfiekjgaaGreatSt17
import Derived.Test.YtjhcejmfiekjgaaGreatSt23
import Derived.Test.YtjhcejmfiekjgaaGreatSt24
import Derived.Test.YtjhcejmfiekjgaaGreatSt25
import Derived.Test.YtjhcejmfiekjgaaGreatSt30
set_option maxRecDepth 100000
set_option maxHeartbeats 64000000
/- The anchor of layer 11. -/
namespace Go.Proofs.YtjhcejmfiekjgaaGreat.Fx
open Go.ChangeShapes Go.WideShapes Go.ChangeAt Go.RowKit
set_option linter.unusedVariables false
theorem RowsR.one {tt : Bd → Bd → Option Tch} {C : List Ct} {L : List Bd} {p : Int × Int} {R : List Ro} (h : RowsR tt C L [p] R) : PairR tt C L p R := by
 generalize e : [p] = l at h
 cases h with
 | nil => cases e
 | snoc h1 h2 =>
  rename_i ps q R0 R'
  have h0 : ps = [] := by
   have := congrArg List.length e
   simp at this
   exact this
  subst h0
  simp at e
  subst e
  generalize e2 : ([] : List (Int × Int)) = l2 at h1
  cases h1 with
  | nil => simpa using h2
  | snoc _ _ =>
   have := congrArg List.length e2
   simp at this
def ttF : Bd → Bd → Option Tch := fun a b => roundsF (a.x, a.y) a.r (b.x, b.y) b.r
theorem fit_TI (ao ao' : Option Addr) (c c' : Nat) (f f' : Cs) : ∀ a ∈ [dot1 ao c f, dot2 ao' c' f'], ∀ b ∈ [dot1 ao c f, dot2 ao' c' f'], I64 ((ttF a b).getD noTch).nx ∧ I64 ((ttF a b).getD noTch).ny ∧ ((ttF a b).getD noTch).pts.length ≤ 1024 ∧ ∀ p ∈ ((ttF a b).getD noTch).pts, I64 p.x ∧ I64 p.y ∧ I64 p.d ∧ I64 p.k := by
 intro a ha b hb
 simp only [List.mem_cons, List.not_mem_nil, or_false] at ha hb
 rcases ha with rfl | rfl <;> rcases hb with rfl | rfl
 ·have e : ttF (dot1 ao c f) (dot1 ao c f) = _ := rounds_d0
  rw [e]; simp [I64]
 ·have e : ttF (dot1 ao c f) (dot2 ao' c' f') = _ := rounds_d1
  rw [e]; simp [I64]
 ·have e : ttF (dot2 ao' c' f') (dot1 ao c f) = _ := rounds_d2
  rw [e]; simp [I64]
 ·have e : ttF (dot2 ao' c' f') (dot2 ao' c' f') = _ := rounds_d3
  rw [e]; simp [I64]
theorem fit_rows {ao ao' : Option Addr} {c c' : Nat} {f f' : Cs} {R : List Ro} (h : PairR ttF [] [dot1 ao c f, dot2 ao' c' f'] (1, 2) R) : R = [rowD] := by
 rcases h with ⟨i, k, a, b, hi, hk, ea, eb, hR⟩ | ⟨_, h | h⟩
 ·have h0 : i = 0 ∧ a = dot1 ao c f := by
   match i, hi with
   | 0, hi => exact ⟨rfl, (Option.some.inj hi).symm⟩
   | 1, hi =>
    have : a = dot2 ao' c' f' := (Option.some.inj hi).symm
    subst this
    exact absurd ea (show ¬ (2 : Int) = 1 by decide)
   | _ + 2, hi => simp at hi
  have h1 : k = 1 ∧ b = dot2 ao' c' f' := by
   match k, hk with
   | 0, hk =>
    have : b = dot1 ao c f := (Option.some.inj hk).symm
    subst this
    exact absurd eb (show ¬ (1 : Int) = 2 by decide)
   | 1, hk => exact ⟨rfl, (Option.some.inj hk).symm⟩
   | _ + 2, hk => simp at hk
  obtain ⟨rfl, rfl⟩ := h0
  obtain ⟨rfl, rfl⟩ := h1
  have e : ttF (dot1 ao c f) (dot2 ao' c' f') = some ⟨4294967296, 0, [⟨3221225472, 0, 2147483648, 0⟩]⟩ := rounds_d1
  rw [e] at hR
  obtain ⟨hl, hr⟩ := hR
  obtain ⟨x, hx, hr0⟩ := hr 0 ⟨3221225472, 0, 2147483648, 0⟩ rfl
  rcases hx with ⟨hx, _⟩ | ⟨rfl, _⟩
  ·exact absurd hx (by simp)
  ·have hr1 : R[0]? = some (rowS 0 1 (dot1 ao c f) (dot2 ao' c' f') (4294967296, 0) (3221225472, 0) 0 2147483648 0 0) := by simp only [Option.getD_some] at hr0; exact hr0
   rw [row_fit ao ao' c c' f f'] at hr1
   have hl1 : R.length = 1 := hl
   cases R with
   | nil => cases hl1
   | cons r R =>
    cases R with
    | nil => rw [List.getElem?_cons_zero] at hr1; rw [Option.some.inj hr1]
    | cons r2 R => simp at hl1
 ·exact absurd rfl (h (dot1 ao c f) (by simp))
 ·exact absurd rfl (h (dot2 ao' c' f') (by simp))
theorem map_one {α β : Type} {f : α → β} {l : List α} {y : β} (h : l.map f = [y]) : ∃ x, l = [x] ∧ f x = y := by
 cases l with
 | nil => simp at h
 | cons x l => cases l with
  | nil => exact ⟨x, rfl, by simpa using h⟩
  | cons _ _ => simp at h
theorem map_two {α β : Type} {f : α → β} {l : List α} {y z : β} (h : l.map f = [y, z]) : ∃ x x', l = [x, x'] ∧ f x = y ∧ f x' = z := by
 cases l with
 | nil => simp at h
 | cons x l => cases l with
  | nil => simp at h
  | cons x' l => cases l with
   | nil => exact ⟨x, x', rfl, by simpa using h⟩
   | cons _ _ => simp at h
theorem same_eq {b b' : Bd} (h : SameB b b') : b' = ⟨b.id, b.x, b.y, b.vx, b.vy, b.an, b.sp, b.de, b.k, b.r, b'.ao, b.n, b'.c, b'.f⟩ := by
 obtain ⟨h0, h1, h2, h3, h4, h5, h6, h7, h8, h9, h10, _⟩ := h
 rw [← h0, ← h1, ← h2, ← h3, ← h4, ← h5, ← h6, ← h7, ← h8, ← h9, ← h10]
theorem same_dots {ao ao' : Option Addr} {c c' : Nat} {f f' : Cs} {L2 : List Bd} (h : SameBs [dot1 ao c f, dot2 ao' c' f'] L2) : ∃ a1 q1 f1 a2 q2 f2, L2 = [dot1 a1 q1 f1, dot2 a2 q2 f2] := by
 obtain ⟨hl, h⟩ := h
 cases L2 with
 | nil => simp at hl
 | cons x l => cases l with
  | nil => simp at hl
  | cons y l => cases l with
   | nil =>
    have h1 := same_eq (h 0 (dot1 ao c f) x rfl rfl)
    have h2 := same_eq (h 1 (dot2 ao' c' f') y rfl rfl)
    exact ⟨x.ao, x.c, x.f, y.ao, y.c, y.f, by rw [h1, h2]; rfl⟩
   | cons _ _ => simp at hl
theorem dot_ok : BodyP ⟨0, 6442450944, 0, -4294967296, 0, 0, 0, 4294967296, 1, 4294967296, none, 0, 0, fun _ => (0, 0)⟩ :=
 ⟨.inl ⟨rfl, rfl, (by show (16777216 : Int) ≤ 4294967296; decide), (by show (4294967296 : Int) ≤ 274877906944; decide)⟩, by unfold Inn; simp, by unfold Inn; simp, by unfold Inn; simp, by unfold Inn; simp, by unfold Inn; simp, by simp, ⟨by simp, by simp⟩, fun h => absurd h (by simp)⟩
theorem dot_i : BdI ⟨0, 6442450944, 0, -4294967296, 0, 0, 0, 4294967296, 1, 4294967296, none, 0, 0, fun _ => (0, 0)⟩ :=
 ⟨i64_0, by show I64 6442450944; unfold I64; omega, i64_0, by show I64 (-4294967296); unfold I64; omega, i64_0, i64_0, i64_0, by show I64 4294967296; unfold I64; omega, by show I64 1; unfold I64; omega, by show I64 4294967296; unfold I64; omega, fun i hi => absurd hi (by simp)⟩
theorem fit11_c (w : World) : Calls Tryz.prog 4 #[] w fun e v => e = .returned (.bool true) ∧ Below w.heap.size w v := by
 go_enter Tryz.func4, Tryz.ntmps4
 go_wp2_with fail
 refine (new_c _).mono ?_
 rintro e w1 ⟨rfl, k1⟩
 have K1 := hid k1
 clear k1
 obtain ⟨W2, eW2⟩ : ∃ V, V = (w1.alloc (.cells #[.int .i64 0, .int .i64 1, .int .i64 1, .int .i64 0, .int .i64 0, .slice none 0 0, .slice none 0 0, .slice none 0 0] 31)).alloc (.cells #[.int .i64 0, .int .i64 0, .int .i64 0, .int .i64 0, .int .i64 0, .int .i64 0, .int .i64 0, .int .i64 4294967296, .int .i64 1, .int .i64 4294967296, .slice none 0 0] 43) := ⟨_, rfl⟩
 have K2 : Hid (Made w.heap.size w W2) := by unfold Hid; rw [eW2]; exact (K1.out.cells K1.out.1.size _ _).cells (Nat.le_trans K1.out.1.size (by simp)) _ _
 have HM2 : Hid (Has W2 w1.heap.size 31 #[.int .i64 0, .int .i64 1, .int .i64 1, .int .i64 0, .int .i64 0, .slice none 0 0, .slice none 0 0, .slice none 0 0]) := by unfold Hid; rw [eW2]; exact (has_new _ _ _).more _
 have HB2 : Hid (Has W2 (w1.heap.size + 1) 43 #[.int .i64 0, .int .i64 0, .int .i64 0, .int .i64 0, .int .i64 0, .int .i64 0, .int .i64 0, .int .i64 4294967296, .int .i64 1, .int .i64 4294967296, .slice none 0 0]) := by unfold Hid; rw [eW2]; exact has_nxt' _ _ _ _
 have hgm : w.heap.size ≤ w1.heap.size := K1.out.1.size
 obtain ⟨gm, egm⟩ : ∃ g, w1.heap.size = g := ⟨_, rfl⟩
 obtain ⟨gb, egb⟩ : ∃ g, gm + 1 = g := ⟨_, rfl⟩
 rw [egm] at HM2 HB2 hgm
 rw [egb] at HB2
 have HV2 : Hid (WV (fun b => b = gm ∨ b = gb) W2 gm ⟨1, 1, [], [], []⟩) := ⟨none, none, none, 0, 0, 0, HM2.out, ls_new _ _⟩
 have hne : ¬ gb = gm := by omega
 have hne' : ¬ gm = gb := by omega
 go_upto_region 3 with fail
 rw [← eW2]
 clear eW2
 try rw [egm]
 try rw [egb]
 have p0 := HB2.out.at_ 0
 have p1 := HB2.out.at_ 1
 have p2 := HB2.out.at_ 2
 have p3 := HB2.out.at_ 3
 have p4 := HB2.out.at_ 4
 have p5 := HB2.out.at_ 5
 have p6 := HB2.out.at_ 6
 have p7 := HB2.out.at_ 7
 have p8 := HB2.out.at_ 8
 have p9 := HB2.out.at_ 9
 have p10 := HB2.out.at_ 10
 simp at p0 p1 p2 p3 p4 p5 p6 p7 p8 p9 p10
 have l2 : gb < W2.heap.size := HB2.out.here
 have HA := hid (addDot (X := fun b => b = gm ∨ b = gb) (w := W2) (gw := gm) (P := ⟨1, 1, [], [], []⟩) ⟨0, 0, 0, 0, 0, 0, 0, 4294967296, 1, 4294967296, none, 0, 0, fun _ => (0, 0)⟩ (disc_ok 4294967296 (by omega) (by omega)) (disc_i 4294967296 (by omega) (by omega)) rfl ⟨rfl, rfl, rfl⟩ HV2.out ok_new (.inl rfl) (fun b hb => hb.elim (fun h => h ▸ HM2.out.here) (fun h => h ▸ HB2.out.here)) (by simp) (by show (1 : Int) < _; omega))
 go_wp2_with fail
 refine HA.out.mono ?_
 rintro e w3 ⟨rfl, kb3, ao1, c1, hv3, ok3⟩
 have K3 : Hid (Made w.heap.size w w3) := But.made_ K2.out kb3 K2.out.1.size (fun b hb => by have hb : b = gm := hb; omega)
 have HV3 := hid hv3
 have OK3 := hid ok3
 have HB3 := hid (HB2.out.but kb3 hne)
 clear kb3 hv3 ok3 l2 HA HV2 HM2 HB2 K2 p0 p1 p2 p3 p4 p5 p6 p7 p8 p9 p10
 have p0 := HB3.out.at_ 0
 have p1 := HB3.out.at_ 1
 have p2 := HB3.out.at_ 2
 have p3 := HB3.out.at_ 3
 have p4 := HB3.out.at_ 4
 have p5 := HB3.out.at_ 5
 have p6 := HB3.out.at_ 6
 have p7 := HB3.out.at_ 7
 have p8 := HB3.out.at_ 8
 have p9 := HB3.out.at_ 9
 have p10 := HB3.out.at_ 10
 simp at p0 p1 p2 p3 p4 p5 p6 p7 p8 p9 p10
 have l3 : gb < w3.heap.size := HB3.out.here
 have f3 := HB3.out.free
 go_upto_region 5 with fail
 obtain ⟨W4, eW4⟩ : ∃ V, V = (w3.setCell ⟨gb, 1, none⟩ (.int .i64 6442450944)).setCell ⟨gb, 3, none⟩ (.int .i64 (-4294967296)) := ⟨_, rfl⟩
 have kb4 : But (fun b => b = gb) w3 W4 := by rw [eW4]; exact ((But.rfl_ (fun b => b = gb) _).put (p := ⟨gb, 1, none⟩) (.inl rfl) _).put (p := ⟨gb, 3, none⟩) (.inl rfl) _
 have HB4 : Hid (Has W4 gb 43 #[.int .i64 0, .int .i64 6442450944, .int .i64 0, .int .i64 (-4294967296), .int .i64 0, .int .i64 0, .int .i64 0, .int .i64 4294967296, .int .i64 1, .int .i64 4294967296, .slice none 0 0]) := by unfold Hid; rw [eW4]; exact (HB3.out.put 1 _).put 3 _
 have HV4 := hid (WVar.bub HV3.out kb4.bub (fun b hb => .inr hb) hne')
 have K4 : Hid (Made w.heap.size w W4) := But.made_ K3.out kb4 K3.out.1.size (fun b hb => by have hb : b = gb := hb; omega)
 rw [← eW4]
 clear eW4 kb4 HV3 HB3 K3 l3 f3 p0 p1 p2 p3 p4 p5 p6 p7 p8 p9 p10
 have p0 := HB4.out.at_ 0
 have p1 := HB4.out.at_ 1
 have p2 := HB4.out.at_ 2
 have p3 := HB4.out.at_ 3
 have p4 := HB4.out.at_ 4
 have p5 := HB4.out.at_ 5
 have p6 := HB4.out.at_ 6
 have p7 := HB4.out.at_ 7
 have p8 := HB4.out.at_ 8
 have p9 := HB4.out.at_ 9
 have p10 := HB4.out.at_ 10
 simp at p0 p1 p2 p3 p4 p5 p6 p7 p8 p9 p10
 have l4 : gb < W4.heap.size := HB4.out.here
 have lm4 : gm < W4.heap.size := by omega
 have HA := hid (addDot (X := fun b => b = gm ∨ b = gb) (w := W4) (gw := gm) (P := ⟨1 + 1, 1, [] ++ [newB 1 ⟨0, 0, 0, 0, 0, 0, 0, 4294967296, 1, 4294967296, none, 0, 0, fun _ => (0, 0)⟩ ao1 c1], [], []⟩) ⟨0, 6442450944, 0, -4294967296, 0, 0, 0, 4294967296, 1, 4294967296, none, 0, 0, fun _ => (0, 0)⟩ dot_ok dot_i rfl ⟨rfl, rfl, rfl⟩ HV4.out OK3.out (.inl rfl) (fun b hb => by rcases hb with hb | hb <;> omega) (by simp) (by show (1 : Int) + 1 < _; omega))
 go_wp2_with fail
 refine HA.out.mono ?_
 rintro e w5 ⟨rfl, kb5, ao2, c2, hv5, ok5⟩
 have K5 : Hid (Made w.heap.size w w5) := But.made_ K4.out kb5 K4.out.1.size (fun b hb => by have hb : b = gm := hb; omega)
 have hv5 : WVar (fun b => b = gm ∨ b = gb) w5 gm 0 3 1 0 0 [dot1 ao1 c1 fun _ => (0, 0), dot2 ao2 c2 fun _ => (0, 0)] [] [] := hv5
 have ok5 : POk ⟨3, 1, [dot1 ao1 c1 fun _ => (0, 0), dot2 ao2 c2 fun _ => (0, 0)], [], []⟩ := ok5
 clear kb5 l4 lm4 HA HV4 OK3 HB4 K4 p0 p1 p2 p3 p4 p5 p6 p7 p8 p9 p10
 obtain ⟨ob, oj, oc, cb, cj, cc, hH, hL⟩ := hv5
 obtain ⟨f0, ef0⟩ : ∃ f : Cs, (fun _ => (0, 0)) = f := ⟨_, rfl⟩
 rw [ef0] at ok5 hL
 have hH : Has w5 gm 31 #[.int .i64 0, .int .i64 3, .int .i64 1, .int .i64 0, .int .i64 0, .slice ob 2 cb, .slice oj 0 cj, .slice oc 0 cc] := hH
 obtain ⟨L, eL⟩ : ∃ L, [dot1 ao1 c1 f0, dot2 ao2 c2 f0] = L := ⟨_, rfl⟩
 have EL := hid eL
 rw [eL] at ok5 hL
 have hn : L.length = 2 := by rw [← eL]; rfl
 have hkn : ∀ b ∈ L, b.k = 1 ∧ b.n = 0 := by
  rw [← eL]; intro b hb
  simp only [List.mem_cons, List.not_mem_nil, or_false] at hb
  rcases hb with rfl | rfl <;> exact ⟨rfl, rfl⟩
 have hti := fit_TI ao1 ao2 c1 c2 f0 f0
 rw [eL] at hti
 obtain ⟨gp, egp⟩ : ∃ g, w5.heap.size = g := ⟨_, rfl⟩
 obtain ⟨W6, eW6⟩ : ∃ V, V = w5.alloc (.cells #[.int .i64 1, .int .i64 2] 63) := ⟨_, rfl⟩
 have k6 : Made w5.heap.size w5 W6 := by rw [eW6]; exact (Made.rfl_ _ _).cells (Nat.le_refl _) _ _
 have hp6 : Has W6 gp 63 #[.int .i64 1, .int .i64 2] := by rw [eW6, ← egp]; exact has_new _ _ _
 have hL6 := hL.kept k6
 have hPs : LsT encP 2 W6 (some ⟨gp, 0, none⟩) [(1, 2)] := fun _ => ⟨gp, 0, rfl, hp6.here, fun i x hi j u hu => by
  match i, hi with
  | 0, hi =>
   obtain rfl : (1, 2) = x := Option.some.inj hi
   match j, hu with
   | 0, hu => obtain rfl := Option.some.inj hu; exact hp6.at_ 0
   | 1, hu => obtain rfl := Option.some.inj hu; exact hp6.at_ 1
   | _ + 2, hu => simp [encP] at hu
  | _ + 1, hi => simp at hi⟩
 have hbi : ∀ b ∈ L, BdI b := fun b hb => (hL6.at_.sB b hb).2
 have HRW := hid (rows_c ttF (tk := 0) (nb := 3) (nj := 1) (gx := 0) (gy := 0) (oj := oj) (nj' := 0) (cj := cj) (cc := cc) (cp := 1) (w := W6) hn hL6.at_.lB (by have := hL6.okB; rw [hn] at this; exact this) hbi ok5.hB.all (fun b hb => (hL6.at_.sB b hb).1) (by omega) ok5.hB.num.2.2.1 (C := []) (oc := oc) (nc := 0) (fun h => absurd h (by simp)) rfl (by omega) List.Pairwise.nil (fun c hc => absurd hc (by simp)) (Ps := [(1, 2)]) (np := 1) hPs rfl (by omega)
  (fun _ a ha b hb v _ => touch_cc (hkn a ha).1 (hkn b hb).1 (hkn a ha).2 (hkn b hb).2 (hbi a ha) (hbi b hb) v) (fun _ => hti))
 have HL6 := hid hL6
 have HH6 := hid (hH.stays k6 hH.here)
 have K6 : Hid (Made w.heap.size w W6) := K5.out.then_ (k6.low K5.out.1.size)
 have HH5 := hid hH
 have HBI := hid hbi; have HBP := hid ok5.hB.all; have HN := hid hn
 have lgp : gm < gp := by rw [← egp]; exact hH.here
 have hszW : (Tryz.prog.info? 31).map (·.size) = some 8 := by kernel_rfl
 have EW6 := hid eW6
 clear hH hL ok5 hn hkn hti k6 hp6 hL6 hPs hbi eL K5 ef0 eW6
 go_upto_region 6 with fail
 go_wp2_with (refine wpList_load_row rfl 31 (.tmp 1) rfl gm rfl 31 _ (0, 0) _ HH5.out Tryz.underlying31 rfl hszW ?_)
 try rw [← EW6.out]
 try rw [egp]
 refine HRW.out.mono ?_
 rintro e w7 ⟨orr, cr, R, rfl, hrr, hown, b7⟩
 have hrr := hrr.one
 rw [← EL.out] at hrr
 have hR := fit_rows hrr
 have hl1 : R.length = 1 := by rw [hR]; rfl
 rw [hl1] at hown ⊢
 subst hR
 have B7 : Hid (Below w.heap.size w w7) := K6.out.1.trans (b7.mono K6.out.1.size)
 have l67 : W6.heap.size ≤ w7.heap.size := b7.size
 obtain ⟨gr, cr', er, hgr, hcr, hcr2, hrow⟩ := RowL.of_own (l := [rowD]) encR_len rfl hown (by decide)
 cases er
 have HRow := hid hrow
 have hL7 := HL6.out.bub (Below.bub (X := Nil0) b7) (fun _ h => h.elim)
 have HH7 := hid (HH6.out.below b7 HH6.out.here)
 have HLw : Hid (WLs (fun b => b = gm ∨ b = gb) w7 ob cb L none 0 [] none 0 []) := by
  have e := ls_new (fun b => b = gm ∨ b = gb) w7
  exact ⟨⟨hL7.at_.lB, e.at_.lJ, e.at_.lC, hL7.at_.sB, e.at_.iJ, e.at_.iC⟩, hL7.okB, e.okJ, e.okC, hL7.offB, e.offJ, e.offC, hL7.offP, hL7.okP⟩
 have hgrw : gr < w7.heap.size := hrow.here
 have hob : Offs (fun x => x = gr ∧ 0 < 1) ob := fun b off s e hb => by
  obtain ⟨b', off', e', hlt, _⟩ := HL6.out.at_.lB (by rw [HN.out]; omega)
  rw [e'] at e
  cases e
  have hb : b = gr := hb.1
  omega
 have HOB := hid hob
 have HLb := hid hL7.at_.lB
 have lmr : gm < gr := by have := HH6.out.here; omega
 have lwr : w.heap.size ≤ gr := by omega
 have HSO := hid (solve_c (R := [rowD]) (T := []) (tv := .slice none 0 0) (m := 1) (q := 0) HLw.out HN.out (by omega) (by omega) HBP.out HBI.out ⟨rfl, .inr ⟨_, rfl, hcr, hcr2, hrow⟩⟩ hgrw ⟨rfl, .inl ⟨rfl, rfl⟩⟩
  (fun r hr => by
   obtain rfl : r = rowD := by simpa using hr
   refine ⟨⟨?_, ⟨?_, ?_⟩, ⟨?_, ?_⟩, ⟨?_, ?_⟩, ?_, ?_, ?_, ?_, ?_⟩, by decide, by decide⟩ <;> (unfold rowD I64; simp))
  (fun t ht => absurd ht (by simp)) (by omega) (by omega))
 clear hrr hown b7 hob hl1 hgr hcr hcr2 hrow hL7 HRW HL6 HH6 HH5 K6 EW6
 have c5 : w7.cell? ⟨gm, 5, none⟩ = some (.slice ob 2 cb) := HH7.out.at_ 5
 go_wp2_with fail
 refine HSO.out.mono ?_
 rintro e w8 ⟨g2, cb2, L2, rfl, _, _, hg2, hs2, hb2, hr2, k8, _⟩
 have hs2' := hs2
 rw [← EL.out] at hs2'
 obtain ⟨a1, q1, f1, a2, q2, f2, eL2⟩ := same_dots hs2'
 have hv1 := solve_fit1 a1 a2 q1 q2 f1 f2
 have hv2 := solve_fit2 a1 a2 q1 q2 f1 f2
 rw [← eL2] at hv1 hv2
 obtain ⟨x1, x2, ex, _, ex2⟩ := map_two hv1
 obtain ⟨⟨A, B, key, n, ra, rb, gn, gt, po, N, T⟩, er, ef⟩ := map_one hv2
 simp only [Prod.mk.injEq] at ef ex2
 obtain ⟨rfl, rfl, rfl, rfl, rfl⟩ := ef
 have hr2 := hr2 (by omega)
 rw [ex] at hb2
 rw [er] at hr2
 have c3 : w8.cell? ⟨g2, 1 * 11 + 3, none⟩ = some (.int .i64 6442450943) := RowL.at1 encB_len hb2 (i := 1) (x := x2) rfl (by rw [← ex2.2]; rfl)
 have c12 : w8.cell? ⟨gr, 0 * 14 + 12, none⟩ = some (.int .i64 33732594286) := RowL.at1 encR_len hr2 (i := 0) rfl rfl
 simp at c3 c12
 have HH8 := hid (HH7.out.bub k8 (by omega))
 have HCN := hid (contacts_c (tk := 0) (nb := 3) (nj := 1) (gx := 0) (gy := 0) (w := w8) (L := L) (ao := ob) (n := 2) (cb := cb) (oj := oj) (nj' := 0) (cj := cj) (oc := oc) (nc := 0) (cc := cc) (cr := cr) HN.out (HLb.out.bub k8 (fun _ => HOB.out)) (by omega) hr2.lsT (m := 1) rfl (by omega) (fun r hr => by
  obtain rfl := List.mem_singleton.1 hr
  exact ⟨by show 0 < 2; omega, by show 1 < 2; omega⟩))
 have B8 : Hid (Below w.heap.size w w8) := BuB.below_ B7.out k8 B7.out.size (fun b hb => by have hb : b = gr := hb.1; omega)
 have HK1 : Hid (∀ K, K = keepS L [⟨0, 1, 0, n, ra, rb, gn, gt, po, 33732594286, 0⟩] → K.length = 1) := fun K e => by
  rw [e, ← EL.out]; rfl
 clear hs2 hs2' hb2 hr2 k8 hv1 hv2 eL2 ex er ex2 HSO c5 HOB HLb HH7 B7
 have b0 := HH8.out.at_ 0
 have b1 := HH8.out.at_ 1
 have b2 := HH8.out.at_ 2
 have b3 := HH8.out.at_ 3
 have b4 := HH8.out.at_ 4
 have b5 := HH8.out.at_ 5
 have b6 := HH8.out.at_ 6
 have b7 := HH8.out.at_ 7
 simp at b0 b1 b2 b3 b4 b5 b6 b7
 have l8 : gm < w8.heap.size := HH8.out.here
 go_wp2_with fail
 refine HCN.out.mono ?_
 rintro e w9 ⟨oq, cq, K, rfl, hK, _, k9⟩
 have hK1 := HK1.out K hK
 rw [hK1]
 have B9 := hid (B8.out.trans (k9.1.mono B8.out.size))
 clear hK hK1 k9
 go_wp2_with fail
 go_ret
 exact ⟨rfl, B9.out⟩
end Go.Proofs.YtjhcejmfiekjgaaGreat.Fx
/- SolveTies. -/
namespace Go.Proofs.YtjhcejmfiekjgaaGreat.Fx
open Go.ChangeShapes Go.WideShapes Go.ChangeAt Go.RowKit
set_option linter.unusedVariables false
theorem des_blw' {w v : World} {ao : Option Addr} {l : List De} (h : DesAt w ao l) (k : Below w.heap.size w v) : DesAt v ao l :=
 ⟨h.1.below k, fun d hd => ⟨(h.2 d hd).1, Sl.blw (h.2 d hd).2 k⟩⟩
theorem TiesR.at_ {ff : Nat → Nat → Bd → Bd → Jt → Ti} {L : List Bd} {J : List Jt} {T : List Ti} (h : TiesR ff L J T) : ∀ (m : Nat) (j : Jt), J[m]? = some j → ∃ i k a b, L[i]? = some a ∧ L[k]? = some b ∧ a.id = j.a ∧ b.id = j.b ∧ T[m]? = some (ff i k a b j) := by
 induction h with
 | nil => intro m j hj; cases hj
 | @snoc js j T i k a b h0 hi hk ha hb ih =>
  intro m j' hj
  have hl := h0.len
  by_cases e : m < js.length
  ·rw [List.getElem?_append_left e] at hj
   obtain ⟨i', k', a', b', h1, h2, h3, h4, h5⟩ := ih m j' hj
   exact ⟨i', k', a', b', h1, h2, h3, h4, by rw [List.getElem?_append_left (by omega)]; exact h5⟩
  ·have hm : m = js.length := by
    have := (List.getElem?_eq_some_iff.1 hj).1
    rw [List.length_append, List.length_singleton] at this
    omega
   subst hm
   rw [List.getElem?_append_right (Nat.le_refl _), Nat.sub_self] at hj
   cases hj
   exact ⟨i, k, a, b, hi, hk, ha, hb, by rw [List.getElem?_append_right (by omega), hl, Nat.sub_self]; rfl⟩
theorem sties_c (l : List De) (l0 : Option Addr) (nl cl : Nat) (w : World) (hnl : l.length = nl) (hD : DesAt w l0 l) (hnc : nl ≤ cl) (hcm : cl ≤ maxLen) (ho : (l0 = none ∧ nl = 0 ∧ cl = 0) ∨ ∃ a, l0 = some a) :
  Calls Tryz.prog 3 #[.slice l0 nl cl] w fun e v => e = .returned (.bool true) ∧ Below w.heap.size w v := by
 have HMd := hid (fun v (k : Below w.heap.size w v) => made_c 12 (by omega) hnl (des_blw' hD k) hnc hcm ho)
 clear hnl hD hnc hcm ho
 go_enter Tryz.func3, Tryz.ntmps3
 go_wp2_with fail
 refine (fit11_c _).mono ?_
 rintro e w1 ⟨rfl, k1⟩
 have K1 : Hid (Below w.heap.size w w1) := k1
 clear k1
 go_wp2_with fail
 refine (HMd.out _ K1.out).mono ?_
 rintro e w2 ⟨P, val, rfl, ⟨ob, oj, oc, cb, cj, cc, rfl, hL⟩, ok, sm, k2⟩
 have K2 : Hid (Below w.heap.size w w2) := K1.out.trans (k2.1.mono K1.out.size)
 have hC0 : P.C.length = 0 := by rw [sm.1]; rfl
 obtain ⟨nB, eB⟩ : ∃ m, P.B.length = m := ⟨_, rfl⟩
 obtain ⟨nJ, eJ⟩ : ∃ m, P.J.length = m := ⟨_, rfl⟩
 obtain ⟨nb, enb⟩ : ∃ m, P.nb = m := ⟨_, rfl⟩
 obtain ⟨nj, enj⟩ : ∃ m, P.nj = m := ⟨_, rfl⟩
 rw [eB, eJ, hC0, enb, enj]
 have hnB : nB ≤ 12 := by rw [← eB]; exact sm.2.1
 have hnJ : nJ ≤ 12 := by rw [← eJ]; exact sm.2.2.1
 obtain ⟨W3, eW3⟩ : ∃ W, W = w2.alloc (.cells #[.int .i64 0, .int .i64 nb, .int .i64 nj, .int .i64 0, .int .i64 0, .slice ob nB cb, .slice oj nJ cj, .slice oc 0 cc] 31) := ⟨_, rfl⟩
 obtain ⟨g5, eg5⟩ : ∃ g, w2.heap.size = g := ⟨_, rfl⟩
 have k3 : Made w2.heap.size w2 W3 := by rw [eW3]; exact (Made.rfl_ _ _).cells (Nat.le_refl _) _ _
 have HW3 : Hid (Has W3 g5 31 #[.int .i64 0, .int .i64 nb, .int .i64 nj, .int .i64 0, .int .i64 0, .slice ob nB cb, .slice oj nJ cj, .slice oc 0 cc]) := by unfold Hid; rw [eW3, ← eg5]; exact has_new _ _ _
 have K3 : Hid (Below w.heap.size w W3) := K2.out.trans (k3.1.mono K2.out.size)
 have hL3 := hL.kept k3
 have hbi : ∀ b ∈ P.B, BdI b := fun b hb => (hL3.at_.sB b hb).2
 have hid_ : ∀ id, id ∈ P.B.map (·.id) → ∃ x ∈ P.B, x.id = id := fun id h => by
  obtain ⟨x, hx, e⟩ := List.mem_map.1 h
  exact ⟨x, hx, e⟩
 have HTs := hid (ties_c tieF (tk := 0) (nb := nb) (nj := nj) (gx := 0) (gy := 0) (L := P.B) (J := P.J) (ao := ob) (oj := oj) (oc := oc) (n := nB) (cb := cb) (np := nJ) (cp := cj) (nc := 0) (cc := cc) (w := W3) eB hL3.at_.lB (by rw [← eB]; exact hL3.okB) hbi ok.hB.all (fun b hb => (hL3.at_.sB b hb).1) (by omega) ok.hB.num.2.2.1
  hL3.at_.lJ eJ (by omega) hL3.at_.iJ (fun j hj => ⟨hid_ _ (ok.hJ.all j hj).2.1, hid_ _ (ok.hJ.all j hj).2.2⟩)
  (fun gb ob' gm cm i k a b j v h1 h2 h3 h4 h5 h6 h7 h8 h9 h10 h11 => tie_c h1 h2 h3 h4 h5 h6 h7 h8 h9 h10 h11))
 have HLB := hid (And.intro hL3.at_.lB hL3.at_.sB)
 have HLJ := hid (And.intro hL3.at_.lJ hL3.at_.iJ)
 have HBP := hid ok.hB; have HEB := hid eB; have HEJ := hid eJ; have HBI := hid hbi
 have hokB := hL3.okB; have hokJ := hL3.okJ
 rw [eB] at hokB
 rw [eJ] at hokJ
 have HOB := hid hokB; have HOJ := hid hokJ
 clear hL ok sm k2 k3 hL3 hbi hC0 eB eJ enb enj K1 K2 HMd hid_ hokB hokJ
 go_upto_region 4 with fail
 try rw [← eW3]
 try rw [eg5]
 clear eW3 eg5
 have hszW : (Tryz.prog.info? 31).map (·.size) = some 8 := by kernel_rfl
 go_wp2_with (refine wpList_load_row rfl 31 (.tmp 3) rfl g5 rfl 31 _ (0, 0) _ HW3.out Tryz.underlying31 rfl hszW ?_)
 refine HTs.out.mono ?_
 rintro e w5 ⟨orr, cr, T, rfl, hTR, hrow, k5⟩
 have K5 : Hid (Below w.heap.size w w5) := K3.out.trans (k5.mono K3.out.size)
 have HW5 := hid (HW3.out.below k5 HW3.out.here)
 have HLB5 := hid (And.intro (HLB.out.1.below k5) (fun b hb => (⟨Sl.blw (HLB.out.2 b hb).1 k5, (HLB.out.2 b hb).2⟩ : Sl w5 b.ao b.n b.f ∧ BdI b)))
 have HLJ5 := hid (HLJ.out.1.below k5)
 have HTR := hid hTR
 have HROW := hid hrow
 clear hTR hrow k5 HTs HW3 HLB K3
 have c5 : w5.cell? ⟨g5, 6, none⟩ = some (.slice oj nJ cj) := HW5.out.at_ 6
 have hjj : ((nJ : Int) != (nJ : Int)) = false := by simp
 go_wp2_with fail
 clear c5
 go_loopg [30] nJ (fun g i wx => ∃ m : Nat, m + g = nJ ∧ i = .int .i64 (m : Nat) ∧ Hid (Below w5.heap.size w5 wx))
 case atStart => exact ⟨0, by omega, by first | rfl | trivial, Below.refl _ _⟩
 case round =>
  obtain ⟨m, hm, rfl, HB⟩ := hrel
  by_cases hlt : m < nJ
  ·obtain ⟨j, hj⟩ : ∃ j, P.J[m]? = some j := ⟨_, List.getElem?_eq_getElem (by rw [HEJ.out]; exact hlt)⟩
   obtain ⟨i, k, a, b, hi, hk, hia, hkb, ht⟩ := HTR.out.at_ m j hj
   have hji := HLJ.out.2 j (List.mem_of_getElem? hj)
   have ham := List.mem_of_getElem? hi
   have hbm := List.mem_of_getElem? hk
   have hin : i < nB := by rw [← HEB.out]; exact (List.getElem?_eq_some_iff.1 hi).1
   have hkn : k < nB := by rw [← HEB.out]; exact (List.getElem?_eq_some_iff.1 hk).1
   obtain ⟨bj, offj, eoj, hbj, hcj⟩ := HLJ5.out (by rw [HEJ.out]; omega)
   obtain ⟨gb, obo, eob, hgb, hcb⟩ := HLB5.out.1 (by rw [HEB.out]; omega)
   subst eoj eob
   have HTB : Hid (∃ gr, orr = some ⟨gr, 0, none⟩ ∧ nJ ≤ cr ∧ cr ≤ maxLen ∧ gr < w5.heap.size ∧ ∀ q v, (flatE encTi T)[q]? = some v → w5.cell? ⟨gr, q, none⟩ = some v) := by
    rcases HROW.out.2 with ⟨_, h0⟩ | ⟨gr, cap, cur, e, _, hg, h1, h2, _⟩
    ·omega
    ·cases e
     refine ⟨gr, rfl, h1, h2, (Array.getElem?_eq_some_iff.1 hg).1, fun q v hq => ?_⟩
     have := HROW.out.cells (g := gr) rfl q v hq
     rwa [Addr.add_lit, Nat.zero_add] at this
   obtain ⟨gr, eor, hJc, hcr, hgr, hct⟩ := HTB.out
   subst eor
   unfold maxLen at hcr
   obtain ⟨jid, ja, jb, jax, jay, jtx, jty, jln⟩ := j
   obtain ⟨_, _, _, ijax, ijay, ijtx, ijty, ijln⟩ := hji
   simp only at ijax ijay ijtx ijty ijln hia hkb
   have hA := HBI.out a ham
   have hB := HBI.out b hbm
   have iAx := hA.x; have iAy := hA.y; have iAa := hA.an; have iBx := hB.x; have iBy := hB.y; have iBa := hB.an
   obtain ⟨ka, eka⟩ : ∃ x, stepF a.an = x := ⟨_, rfl⟩
   obtain ⟨kb, ekb⟩ : ∃ x, stepF b.an = x := ⟨_, rfl⟩
   obtain ⟨ca, eca⟩ : ∃ x, cs ka = x := ⟨_, rfl⟩
   obtain ⟨sa, esa⟩ : ∃ x, sn ka = x := ⟨_, rfl⟩
   obtain ⟨cb', ecb⟩ : ∃ x, cs kb = x := ⟨_, rfl⟩
   obtain ⟨sb, esb⟩ : ∃ x, sn kb = x := ⟨_, rfl⟩
   have ica : I64 ca := by rw [← eca]; exact I64_cs _
   have isa : I64 sa := by rw [← esa]; exact I64_sn _
   have icb : I64 cb' := by rw [← ecb]; exact I64_cs _
   have isb : I64 sb := by rw [← esb]; exact I64_sn _
   obtain ⟨rax, e1⟩ : ∃ x, subF (mulF ca jax) (mulF sa jay) = x := ⟨_, rfl⟩
   obtain ⟨ray, e2⟩ : ∃ x, addF (mulF sa jax) (mulF ca jay) = x := ⟨_, rfl⟩
   obtain ⟨rbx, e3⟩ : ∃ x, subF (mulF cb' jtx) (mulF sb jty) = x := ⟨_, rfl⟩
   obtain ⟨rby, e4⟩ : ∃ x, addF (mulF sb jtx) (mulF cb' jty) = x := ⟨_, rfl⟩
   have irax : I64 rax := by rw [← e1]; exact i64_sub _ _
   have iray : I64 ray := by rw [← e2]; exact i64_add _ _
   have irbx : I64 rbx := by rw [← e3]; exact i64_sub _ _
   have irby : I64 rby := by rw [← e4]; exact i64_add _ _
   obtain ⟨px, e5⟩ : ∃ x, addF b.x rbx = x := ⟨_, rfl⟩
   obtain ⟨py, e6⟩ : ∃ x, addF b.y rby = x := ⟨_, rfl⟩
   obtain ⟨qx, e7⟩ : ∃ x, addF a.x rax = x := ⟨_, rfl⟩
   obtain ⟨qy, e8⟩ : ∃ x, addF a.y ray = x := ⟨_, rfl⟩
   have ipx : I64 px := by rw [← e5]; exact i64_add _ _
   have ipy : I64 py := by rw [← e6]; exact i64_add _ _
   have iqx : I64 qx := by rw [← e7]; exact i64_add _ _
   have iqy : I64 qy := by rw [← e8]; exact i64_add _ _
   obtain ⟨dx, e9⟩ : ∃ x, subF px qx = x := ⟨_, rfl⟩
   obtain ⟨dy, e10⟩ : ∃ x, subF py qy = x := ⟨_, rfl⟩
   have idx : I64 dx := by rw [← e9]; exact i64_sub _ _
   have idy : I64 dy := by rw [← e10]; exact i64_sub _ _
   obtain ⟨ln, e11⟩ : ∃ x, lenF dx dy = x := ⟨_, rfl⟩
   have iln : I64 ln := by rw [← e11]; exact i64_len _ _
   obtain ⟨⟨nx, ny⟩, e12⟩ : ∃ x, normS (dx, dy) = x := ⟨_, rfl⟩
   have hno : (ln = 0 → nx = 4294967296 ∧ ny = 0) ∧ (ln ≠ 0 → divF dx ln = nx ∧ divF dy ln = ny) := by
    unfold normS at e12
    rw [e11] at e12
    constructor
    ·intro h; rw [if_pos h] at e12; cases e12; exact ⟨rfl, rfl⟩
    ·intro h; rw [if_neg h] at e12; cases e12; exact ⟨rfl, rfl⟩
   have inx : I64 nx := by
    by_cases h : ln = 0
    ·rw [(hno.1 h).1]; unfold I64; omega
    ·rw [← (hno.2 h).1]; exact i64_div _ _
   have iny : I64 ny := by
    by_cases h : ln = 0
    ·rw [(hno.1 h).2]; unfold I64; omega
    ·rw [← (hno.2 h).2]; exact i64_div _ _
   obtain ⟨gg, e13⟩ : ∃ x, giveS a b (rax, ray) (rbx, rby) (nx, ny) = x := ⟨_, rfl⟩
   obtain ⟨rr, e14⟩ : ∃ x, partF 64 5 = x := ⟨_, rfl⟩
   have irr : I64 rr := by rw [← e14]; exact i64_div _ _
   obtain ⟨lo, e15⟩ : ∃ x, subF ln jln = x := ⟨_, rfl⟩
   have ilo : I64 lo := by rw [← e15]; exact i64_sub _ _
   obtain ⟨ml, e16⟩ : ∃ x, mulF rr lo = x := ⟨_, rfl⟩
   obtain ⟨oo, e17⟩ : ∃ x, bringF ml (-17179869184) 17179869184 = x := ⟨_, rfl⟩
   have hoff : max (min ml 17179869184) (-17179869184) = oo := by
    have h := off_said ln jln
    unfold offS at h
    rw [e14, e15, e16, e17] at h
    exact h
   have HF : tieF i k a b ⟨jid, ja, jb, jax, jay, jtx, jty, jln⟩ = ⟨i, k, (nx, ny), (rax, ray), (rbx, rby), gg, oo⟩ := by
    unfold tieF rotS subS addS offS
    simp only [eka, ekb, eca, esa, ecb, esb, e1, e2, e3, e4, e5, e6, e7, e8, e9, e10, e11, e12, e13, e14, e15, e16, e17]
   obtain ⟨mm, emm⟩ : ∃ x, min ml 17179869184 = x := ⟨_, rfl⟩
   rw [emm] at hoff
   rw [HF] at ht
   have htc : ∀ q v, (encTi ⟨i, k, (nx, ny), (rax, ray), (rbx, rby), gg, oo⟩)[q]? = some v → w5.cell? ⟨gr, m * 10 + q, none⟩ = some v := fun q v hv => hct _ _ (by
    rw [flatE_at encTi_len T m _ ht q (by have := (List.getElem?_eq_some_iff.1 hv).1; rwa [encTi_len] at this)]; exact hv)
   have hjc : ∀ q v, (encJ ⟨jid, ja, jb, jax, jay, jtx, jty, jln⟩)[q]? = some v → w5.cell? ⟨bj, offj + m * 8 + q, none⟩ = some v := fun q v hv => hcj m _ hj q v hv
   have HTC := hid htc; have HJC := hid hjc; have HIA := hid hia; have HKB := hid hkb
   clear hia hkb
   have HMA := hid (fun v (kk : Below w5.heap.size w5 v) => (show ElT encB v gb (obo + i * 11) a from fun q x hq => (kk.cell (p := ⟨gb, _, none⟩) hgb).trans (hcb i a hi q x hq)))
   have HMB := hid (fun v (kk : Below w5.heap.size w5 v) => (show ElT encB v gb (obo + k * 11) b from fun q x hq => (kk.cell (p := ⟨gb, _, none⟩) hgb).trans (hcb k b hk q x hq)))
   have HGV := hid (fun v (kk : Below w5.heap.size w5 v) => give_c a b rax ray rbx rby nx ny gg hA (HBP.out.all a ham) (Sl.blw (HLB5.out.2 a ham).1 kk) hB (HBP.out.all b hbm) (Sl.blw (HLB5.out.2 b hbm).1 kk) irax iray irbx irby inx iny e13)
   have HRotA : Hid (∀ v, Calls Tryz.prog 8 #[.int .i64 a.an] v fun e v' => e = .returned (rotV ca sa) ∧ Made v.heap.size v v') := fun v => (turnOf_is a.an ka v iAa eka).mono fun e v' h => by rw [eca, esa] at h; exact h
   have HRotB : Hid (∀ v, Calls Tryz.prog 8 #[.int .i64 b.an] v fun e v' => e = .returned (rotV cb' sb) ∧ Made v.heap.size v v') := fun v => (turnOf_is b.an kb v iBa ekb).mono fun e v' h => by rw [ecb, esb] at h; exact h
   have E1 := hid e1; have E2 := hid e2; have E3 := hid e3; have E4 := hid e4; have E5 := hid e5; have E6 := hid e6; have E7 := hid e7; have E8 := hid e8; have E9 := hid e9; have E10 := hid e10; have E11 := hid e11; have E14 := hid e14; have E15 := hid e15; have E16 := hid e16; have HNO := hid hno
   obtain ⟨oa, eoa⟩ : ∃ o, obo + i * 11 = o := ⟨_, rfl⟩
   obtain ⟨ok, eok⟩ : ∃ o, obo + k * 11 = o := ⟨_, rfl⟩
   rw [eoa] at HMA
   rw [eok] at HMB
   obtain ⟨oJ, eoJ⟩ : ∃ o, offj + m * 8 = o := ⟨_, rfl⟩
   obtain ⟨oT, eoT⟩ : ∃ o, m * 10 = o := ⟨_, rfl⟩
   rw [eoJ] at HJC
   rw [eoT] at HTC
   have iml : I64 ml := by rw [← e16]; exact i64_mul _ _
   clear eka ekb eca esa ecb esb e1 e2 e3 e4 e5 e6 e7 e8 e9 e10 e11 e12 e13 e14 e15 e16 e17 hno HF ht htc hjc hcj hcb hct hj hi hk hA hB ham hbm hbj hgr
   have j0 : wr.cell? ⟨bj, oJ, none⟩ = some (.int .i64 jid) := Below.reads HB.out (HJC.out 0 _ rfl)
   have j1 : wr.cell? ⟨bj, oJ + 1, none⟩ = some (.int .i64 ja) := Below.reads HB.out (HJC.out 1 _ rfl)
   have j2 : wr.cell? ⟨bj, oJ + 2, none⟩ = some (.int .i64 jb) := Below.reads HB.out (HJC.out 2 _ rfl)
   have j3 : wr.cell? ⟨bj, oJ + 3, none⟩ = some (.int .i64 jax) := Below.reads HB.out (HJC.out 3 _ rfl)
   have j4 : wr.cell? ⟨bj, oJ + 4, none⟩ = some (.int .i64 jay) := Below.reads HB.out (HJC.out 4 _ rfl)
   have j5 : wr.cell? ⟨bj, oJ + 5, none⟩ = some (.int .i64 jtx) := Below.reads HB.out (HJC.out 5 _ rfl)
   have j6 : wr.cell? ⟨bj, oJ + 6, none⟩ = some (.int .i64 jty) := Below.reads HB.out (HJC.out 6 _ rfl)
   have j7 : wr.cell? ⟨bj, oJ + 7, none⟩ = some (.int .i64 jln) := Below.reads HB.out (HJC.out 7 _ rfl)
   go_upto_region 10 with fail
   obtain ⟨W6, e6⟩ : ∃ W, W = wr.alloc (.cells #[.int .i64 jid, .int .i64 ja, .int .i64 jb, .int .i64 jax, .int .i64 jay, .int .i64 jtx, .int .i64 jty, .int .i64 jln] 36) := ⟨_, rfl⟩
   obtain ⟨g6, eg6⟩ : ∃ g, wr.heap.size = g := ⟨_, rfl⟩
   have k6 : Made wr.heap.size wr W6 := by rw [e6]; exact (Made.rfl_ _ _).cells (Nat.le_refl _) _ _
   have HJ6 : Hid (Has W6 g6 36 #[.int .i64 jid, .int .i64 ja, .int .i64 jb, .int .i64 jax, .int .i64 jay, .int .i64 jtx, .int .i64 jty, .int .i64 jln]) := by unfold Hid; rw [e6, ← eg6]; exact has_new _ _ _
   have B6 : Hid (Below w5.heap.size w5 W6) := HB.out.trans (k6.1.mono HB.out.size)
   try rw [← e6]
   try rw [eg6]
   clear e6 eg6 k6 j0 j1 j2 j3 j4 j5 j6 j7 HB
   have t0 : W6.cell? ⟨gr, oT, none⟩ = some (.int .i64 (i : Nat)) := Below.reads B6.out (HTC.out 0 _ rfl)
   have t1 : W6.cell? ⟨gr, oT + 1, none⟩ = some (.int .i64 (k : Nat)) := Below.reads B6.out (HTC.out 1 _ rfl)
   have t2 : W6.cell? ⟨gr, oT + 2, none⟩ = some (.int .i64 nx) := Below.reads B6.out (HTC.out 2 _ rfl)
   have t3 : W6.cell? ⟨gr, oT + 3, none⟩ = some (.int .i64 ny) := Below.reads B6.out (HTC.out 3 _ rfl)
   have t4 : W6.cell? ⟨gr, oT + 4, none⟩ = some (.int .i64 rax) := Below.reads B6.out (HTC.out 4 _ rfl)
   have t5 : W6.cell? ⟨gr, oT + 5, none⟩ = some (.int .i64 ray) := Below.reads B6.out (HTC.out 5 _ rfl)
   have t6 : W6.cell? ⟨gr, oT + 6, none⟩ = some (.int .i64 rbx) := Below.reads B6.out (HTC.out 6 _ rfl)
   have t7 : W6.cell? ⟨gr, oT + 7, none⟩ = some (.int .i64 rby) := Below.reads B6.out (HTC.out 7 _ rfl)
   have t8 : W6.cell? ⟨gr, oT + 8, none⟩ = some (.int .i64 gg) := Below.reads B6.out (HTC.out 8 _ rfl)
   have t9 : W6.cell? ⟨gr, oT + 9, none⟩ = some (.int .i64 oo) := Below.reads B6.out (HTC.out 9 _ rfl)
   go_upto_region 11 with fail
   obtain ⟨W7, e7⟩ : ∃ W, W = W6.alloc (.cells #[.int .i64 (i : Nat), .int .i64 (k : Nat), .int .i64 nx, .int .i64 ny, .int .i64 rax, .int .i64 ray, .int .i64 rbx, .int .i64 rby, .int .i64 gg, .int .i64 oo] 38) := ⟨_, rfl⟩
   obtain ⟨g7, eg7⟩ : ∃ g, W6.heap.size = g := ⟨_, rfl⟩
   have k7 : Made W6.heap.size W6 W7 := by rw [e7]; exact (Made.rfl_ _ _).cells (Nat.le_refl _) _ _
   have HT7 : Hid (Has W7 g7 38 #[.int .i64 (i : Nat), .int .i64 (k : Nat), .int .i64 nx, .int .i64 ny, .int .i64 rax, .int .i64 ray, .int .i64 rbx, .int .i64 rby, .int .i64 gg, .int .i64 oo]) := by unfold Hid; rw [e7, ← eg7]; exact has_new _ _ _
   have HJ7 := hid (HJ6.out.stays k7 HJ6.out.here)
   have B7 : Hid (Below w5.heap.size w5 W7) := B6.out.trans (k7.1.mono B6.out.size)
   try rw [← e7]
   try rw [eg7]
   clear e7 eg7 k7 t0 t1 t2 t3 t4 t5 t6 t7 t8 t9 B6 HJ6
   have HW7 := hid (HW5.out.below B7.out HW5.out.here)
   have l5 : g5 < W7.heap.size := HW7.out.here
   have l7 : g7 < W7.heap.size := HT7.out.here
   have l6 : g6 < W7.heap.size := HJ7.out.here
   have c5 : W7.cell? ⟨g5, 5, none⟩ = some (.slice (some ⟨gb, obo, none⟩) nB cb) := HW7.out.at_ 5
   have u0 : W7.cell? ⟨g7, 0, none⟩ = some (.int .i64 (i : Nat)) := HT7.out.at_ 0
   have u1 : W7.cell? ⟨g7, 1, none⟩ = some (.int .i64 (k : Nat)) := HT7.out.at_ 1
   have a0 : W7.cell? ⟨gb, oa, none⟩ = some (.int .i64 a.id) := HMA.out W7 B7.out 0 _ rfl
   have a1 : W7.cell? ⟨gb, oa + 1, none⟩ = some (.int .i64 a.x) := HMA.out W7 B7.out 1 _ rfl
   have a2 : W7.cell? ⟨gb, oa + 2, none⟩ = some (.int .i64 a.y) := HMA.out W7 B7.out 2 _ rfl
   have a3 : W7.cell? ⟨gb, oa + 3, none⟩ = some (.int .i64 a.vx) := HMA.out W7 B7.out 3 _ rfl
   have a4 : W7.cell? ⟨gb, oa + 4, none⟩ = some (.int .i64 a.vy) := HMA.out W7 B7.out 4 _ rfl
   have a5 : W7.cell? ⟨gb, oa + 5, none⟩ = some (.int .i64 a.an) := HMA.out W7 B7.out 5 _ rfl
   have a6 : W7.cell? ⟨gb, oa + 6, none⟩ = some (.int .i64 a.sp) := HMA.out W7 B7.out 6 _ rfl
   have a7 : W7.cell? ⟨gb, oa + 7, none⟩ = some (.int .i64 a.de) := HMA.out W7 B7.out 7 _ rfl
   have a8 : W7.cell? ⟨gb, oa + 8, none⟩ = some (.int .i64 a.k) := HMA.out W7 B7.out 8 _ rfl
   have a9 : W7.cell? ⟨gb, oa + 9, none⟩ = some (.int .i64 a.r) := HMA.out W7 B7.out 9 _ rfl
   have a10 : W7.cell? ⟨gb, oa + 10, none⟩ = some (.slice a.ao a.n a.c) := HMA.out W7 B7.out 10 _ rfl
   have b0 : W7.cell? ⟨gb, ok, none⟩ = some (.int .i64 b.id) := HMB.out W7 B7.out 0 _ rfl
   have b1 : W7.cell? ⟨gb, ok + 1, none⟩ = some (.int .i64 b.x) := HMB.out W7 B7.out 1 _ rfl
   have b2 : W7.cell? ⟨gb, ok + 2, none⟩ = some (.int .i64 b.y) := HMB.out W7 B7.out 2 _ rfl
   have b3 : W7.cell? ⟨gb, ok + 3, none⟩ = some (.int .i64 b.vx) := HMB.out W7 B7.out 3 _ rfl
   have b4 : W7.cell? ⟨gb, ok + 4, none⟩ = some (.int .i64 b.vy) := HMB.out W7 B7.out 4 _ rfl
   have b5 : W7.cell? ⟨gb, ok + 5, none⟩ = some (.int .i64 b.an) := HMB.out W7 B7.out 5 _ rfl
   have b6 : W7.cell? ⟨gb, ok + 6, none⟩ = some (.int .i64 b.sp) := HMB.out W7 B7.out 6 _ rfl
   have b7 : W7.cell? ⟨gb, ok + 7, none⟩ = some (.int .i64 b.de) := HMB.out W7 B7.out 7 _ rfl
   have b8 : W7.cell? ⟨gb, ok + 8, none⟩ = some (.int .i64 b.k) := HMB.out W7 B7.out 8 _ rfl
   have b9 : W7.cell? ⟨gb, ok + 9, none⟩ = some (.int .i64 b.r) := HMB.out W7 B7.out 9 _ rfl
   have b10 : W7.cell? ⟨gb, ok + 10, none⟩ = some (.slice b.ao b.n b.c) := HMB.out W7 B7.out 10 _ rfl
   have hin' : (i : Int) < (nB : Int) := by omega
   have hkn' : (k : Int) < (nB : Int) := by omega
   have lgb : gb < W7.heap.size := World.block_lt_of_cell? (a := ⟨gb, oa, none⟩) W7 a0
   go_cut [8, 9] (fun s9 s10 wx => ∃ gA gB, s9 = .pointer (some ⟨gA, 0, none⟩) ∧ s10 = .pointer (some ⟨gB, 0, none⟩) ∧ Hid (Has wx gA 43 #[.int .i64 a.id, .int .i64 a.x, .int .i64 a.y, .int .i64 a.vx, .int .i64 a.vy, .int .i64 a.an, .int .i64 a.sp, .int .i64 a.de, .int .i64 a.k, .int .i64 a.r, .slice a.ao a.n a.c]) ∧ Hid (Has wx gB 43 #[.int .i64 b.id, .int .i64 b.x, .int .i64 b.y, .int .i64 b.vx, .int .i64 b.vy, .int .i64 b.an, .int .i64 b.sp, .int .i64 b.de, .int .i64 b.k, .int .i64 b.r, .slice b.ao b.n b.c]) ∧ Hid (Made W7.heap.size W7 wx))
   case first =>
    go_region
    ·go_wp2_with fail
     go_meet
     exact ⟨W7.heap.size, W7.heap.size + 1, rfl, rfl, ((has_new _ _ _).more _).drawn 1, (has_next _ _ _ _).drawn 1, (((Made.rfl_ _ _).cells (Nat.le_refl _) _ _).cells (by simp) _ _).draws 1⟩
    ·go_wp2_with fail
     go_meet
     exact ⟨W7.heap.size + 1, W7.heap.size, rfl, rfl, (has_next _ _ _ _).drawn 1, ((has_new _ _ _).more _).drawn 1, (((Made.rfl_ _ _).cells (Nat.le_refl _) _ _).cells (by simp) _ _).draws 1⟩
   obtain ⟨gA, gB, rfl, rfl, HA8, HB8, HK⟩ := hcut
   have HT8 := hid (HT7.out.stays HK.out HT7.out.here)
   have HJ8 := hid (HJ7.out.stays HK.out HJ7.out.here)
   have B8 : Hid (Below w5.heap.size w5 wc) := B7.out.trans (HK.out.1.mono B7.out.size)
   clear HK HT7 HJ7 HW7 B7 HMA HMB c5 u0 u1 a0 a1 a2 a3 a4 a5 a6 a7 a8 a9 a10 b0 b1 b2 b3 b4 b5 b6 b7 b8 b9 b10 lgb hin' hkn' l5 l6 l7
   -- region 12
   go_upto_region 12 with fail
   refine reg_made (by kernel_rfl) (by kernel_rfl) ?_
   intro Ty hTy fw hf
   have x0 := Class.reads hf (show wc.cell? ⟨gA, 0, none⟩ = some (.int .i64 a.id) from HA8.out.at_ 0)
   have x1 := Class.reads hf (show wc.cell? ⟨g6, 1, none⟩ = some (.int .i64 ja) from HJ8.out.at_ 1)
   have x2 := Class.reads hf (show wc.cell? ⟨gB, 0, none⟩ = some (.int .i64 b.id) from HB8.out.at_ 0)
   have x3 := Class.reads hf (show wc.cell? ⟨g6, 2, none⟩ = some (.int .i64 jb) from HJ8.out.at_ 2)
   have x4 := Class.reads hf (show wc.cell? ⟨g7, 4, none⟩ = some (.int .i64 rax) from HT8.out.at_ 4)
   have x5 := Class.reads hf (show wc.cell? ⟨g7, 5, none⟩ = some (.int .i64 ray) from HT8.out.at_ 5)
   have x6 := Class.reads hf (show wc.cell? ⟨gA, 5, none⟩ = some (.int .i64 a.an) from HA8.out.at_ 5)
   have x7 := Class.reads hf (show wc.cell? ⟨g6, 3, none⟩ = some (.int .i64 jax) from HJ8.out.at_ 3)
   have x8 := Class.reads hf (show wc.cell? ⟨g6, 4, none⟩ = some (.int .i64 jay) from HJ8.out.at_ 4)
   have x9 := Class.reads hf (show wc.cell? ⟨g7, 6, none⟩ = some (.int .i64 rbx) from HT8.out.at_ 6)
   have x10 := Class.reads hf (show wc.cell? ⟨g7, 7, none⟩ = some (.int .i64 rby) from HT8.out.at_ 7)
   have x11 := Class.reads hf (show wc.cell? ⟨gB, 5, none⟩ = some (.int .i64 b.an) from HB8.out.at_ 5)
   have x12 := Class.reads hf (show wc.cell? ⟨g6, 5, none⟩ = some (.int .i64 jtx) from HJ8.out.at_ 5)
   have x13 := Class.reads hf (show wc.cell? ⟨g6, 6, none⟩ = some (.int .i64 jty) from HJ8.out.at_ 6)
   have H1 := hid (fun t => hf.made (x := t) (HRotA.out (fw t)))
   have H2 := hid (fun t => hf.made (x := t) (HRotB.out (fw t)))
   have H3 := hid (fun t => hf.made (x := t) (vapply_is ca sa jax jay rax ray (fw t) ica isa ijax ijay E1.out E2.out))
   have H4 := hid (fun t => hf.made (x := t) (vapply_is cb' sb jtx jty rbx rby (fw t) icb isb ijtx ijty E3.out E4.out))
   have q1 := fun t => vneq rax ray rax ray false (by simp) (fw t)
   have q2 := fun t => vneq rbx rby rbx rby false (by simp) (fw t)
   have q3 : (a.id != ja) = false := by simp; exact HIA.out
   have q4 : (b.id != jb) = false := by simp; exact HKB.out
   repeat (go_big_quiet_step (first
    | (go_at_call 8; with_reducible first | exact H1.out _ | exact H2.out _)
    | (go_at_call 7; with_reducible first | exact H3.out _ | exact H4.out _)
    | rfl))
   refine wpQuiet_nil ?_
   intro w9 h9
   have k9 := hf.here h9
   have HA9 := hid (HA8.out.stays k9 HA8.out.here)
   have HB9 := hid (HB8.out.stays k9 HB8.out.here)
   have HT9 := hid (HT8.out.stays k9 HT8.out.here)
   have HJ9 := hid (HJ8.out.stays k9 HJ8.out.here)
   have B9 : Hid (Below w5.heap.size w5 w9) := B8.out.trans (k9.1.mono B8.out.size)
   clear h9 hf k9 x0 x1 x2 x3 x4 x5 x6 x7 x8 x9 x10 x11 x12 x13 H1 H2 H3 H4 q1 q2 q3 q4 HA8 HB8 HT8 HJ8 B8
   go_upto_region 14 with fail
   refine reg_float1 11 137 10 26 #[.int .i64 0, .int .i64 0] _ (by kernel_rfl) (by kernel_rfl) (by kernel_rfl) rfl rfl alc_V ?_
   apply Exists.intro
   refine ⟨?h1, ?h2⟩
   case h1 =>
    intro Ty hTy fw hf
    have z0 := Class.reads hf (show w9.cell? ⟨gB, 1, none⟩ = some (.int .i64 b.x) from HB9.out.at_ 1)
    have z1 := Class.reads hf (show w9.cell? ⟨gB, 2, none⟩ = some (.int .i64 b.y) from HB9.out.at_ 2)
    have z2 := Class.reads hf (show w9.cell? ⟨gA, 1, none⟩ = some (.int .i64 a.x) from HA9.out.at_ 1)
    have z3 := Class.reads hf (show w9.cell? ⟨gA, 2, none⟩ = some (.int .i64 a.y) from HA9.out.at_ 2)
    have z4 := Class.reads hf (show w9.cell? ⟨g7, 4, none⟩ = some (.int .i64 rax) from HT9.out.at_ 4)
    have z5 := Class.reads hf (show w9.cell? ⟨g7, 5, none⟩ = some (.int .i64 ray) from HT9.out.at_ 5)
    have z6 := Class.reads hf (show w9.cell? ⟨g7, 6, none⟩ = some (.int .i64 rbx) from HT9.out.at_ 6)
    have z7 := Class.reads hf (show w9.cell? ⟨g7, 7, none⟩ = some (.int .i64 rby) from HT9.out.at_ 7)
    have H1 := hid (fun t => hf.made (x := t) (vadd_is b.x b.y rbx rby px py (fw t) iBx iBy irbx irby E5.out E6.out))
    have H2 := hid (fun t => hf.made (x := t) (vadd_is a.x a.y rax ray qx qy (fw t) iAx iAy irax iray E7.out E8.out))
    have H3 := hid (fun t => hf.made (x := t) (vsub_is px py qx qy dx dy (fw t) ipx ipy iqx iqy E9.out E10.out))
    simp only [List.take_succ_cons, List.take_zero]
    repeat (go_big_quiet_step ((first
     | (go_at_call 10; with_reducible first | exact H1.out _ | exact H2.out _)
     | (go_at_call 9; with_reducible exact H3.out _))))
    exact wpQuiet_nil rfl
   intro gw v9 k9 hg hh
   simp only [List.drop_succ_cons, List.drop_zero]
   have LW : Hid (gA < gw ∧ gB < gw ∧ g6 < gw ∧ g7 < gw ∧ w5.heap.size ≤ gw) := ⟨Nat.lt_of_lt_of_le HA9.out.here hg, Nat.lt_of_lt_of_le HB9.out.here hg, Nat.lt_of_lt_of_le HJ9.out.here hg, Nat.lt_of_lt_of_le HT9.out.here hg, Nat.le_trans B9.out.size hg⟩
   obtain ⟨W10, e10⟩ : ∃ W, W = (v9.setCell ⟨gw, 0, none⟩ (.int .i64 dx)).setCell ⟨gw, 1, none⟩ (.int .i64 dy) := ⟨_, rfl⟩
   have y0 := hh.at_ 0
   have y1 := hh.at_ 1
   have yf0 := hh.free 0
   have yf1 := hh.free 1
   simp at y0 y1
   have HW10 : Hid (Has W10 gw 26 #[.int .i64 dx, .int .i64 dy]) := by unfold Hid; rw [e10]; exact (hh.put 0 (.int .i64 dx)).put 1 (.int .i64 dy)
   have HA10 : Hid (Has W10 gA 43 #[.int .i64 a.id, .int .i64 a.x, .int .i64 a.y, .int .i64 a.vx, .int .i64 a.vy, .int .i64 a.an, .int .i64 a.sp, .int .i64 a.de, .int .i64 a.k, .int .i64 a.r, .slice a.ao a.n a.c]) := by unfold Hid; rw [e10]; exact ((HA9.out.stays k9 HA9.out.here).other _ (by have := LW.out; show gA ≠ gw; omega) _).other _ (by have := LW.out; show gA ≠ gw; omega) _
   have HB10 : Hid (Has W10 gB 43 #[.int .i64 b.id, .int .i64 b.x, .int .i64 b.y, .int .i64 b.vx, .int .i64 b.vy, .int .i64 b.an, .int .i64 b.sp, .int .i64 b.de, .int .i64 b.k, .int .i64 b.r, .slice b.ao b.n b.c]) := by unfold Hid; rw [e10]; exact ((HB9.out.stays k9 HB9.out.here).other _ (by have := LW.out; show gB ≠ gw; omega) _).other _ (by have := LW.out; show gB ≠ gw; omega) _
   have HJ10 : Hid (Has W10 g6 36 #[.int .i64 jid, .int .i64 ja, .int .i64 jb, .int .i64 jax, .int .i64 jay, .int .i64 jtx, .int .i64 jty, .int .i64 jln]) := by unfold Hid; rw [e10]; exact ((HJ9.out.stays k9 HJ9.out.here).other _ (by have := LW.out; show g6 ≠ gw; omega) _).other _ (by have := LW.out; show g6 ≠ gw; omega) _
   have HT10 : Hid (Has W10 g7 38 #[.int .i64 (i : Nat), .int .i64 (k : Nat), .int .i64 nx, .int .i64 ny, .int .i64 rax, .int .i64 ray, .int .i64 rbx, .int .i64 rby, .int .i64 gg, .int .i64 oo]) := by unfold Hid; rw [e10]; exact ((HT9.out.stays k9 HT9.out.here).other _ (by have := LW.out; show g7 ≠ gw; omega) _).other _ (by have := LW.out; show g7 ≠ gw; omega) _
   have B10 : Hid (Below w5.heap.size w5 W10) := by
    unfold Hid; rw [e10]
    exact ((B9.out.trans (k9.1.mono B9.out.size)).setCell (p := ⟨gw, 0, none⟩) LW.out.2.2.2.2 _).setCell (p := ⟨gw, 1, none⟩) LW.out.2.2.2.2 _
   obtain ⟨ux, uy, q, hu, huq⟩ : ∃ ux uy q, unitV dx dy = .tuple #[vecV ux uy, .bool q] ∧ ((q = true ∧ ux = nx ∧ uy = ny) ∨ (q = false ∧ nx = 4294967296 ∧ ny = 0)) := by
    by_cases h : ln = 0
    ·exact ⟨0, 0, false, unitV_no (by rw [E11.out]; exact h), .inr ⟨rfl, HNO.out.1 h⟩⟩
    ·exact ⟨nx, ny, true, unitV_of E11.out h (HNO.out.2 h).1 (HNO.out.2 h).2, .inl ⟨rfl, rfl, rfl⟩⟩
   have HU := hid hu; have HUQ := hid huq
   clear hu huq hg hh k9 HA9 HB9 HJ9 HT9 B9
   go_upto_region 15 with fail
   try rw [← e10]
   clear e10 y0 y1 yf0 yf1
   go_upto_region 16 with fail
   obtain ⟨W11, e11⟩ : ∃ W, W = W10.alloc (.cells #[.int .i64 4294967296, .int .i64 0] 26) := ⟨_, rfl⟩
   obtain ⟨gd, egd⟩ : ∃ g, W10.heap.size = g := ⟨_, rfl⟩
   have k11 : Made W10.heap.size W10 W11 := by rw [e11]; exact (Made.rfl_ _ _).cells (Nat.le_refl _) _ _
   have HD11 : Hid (Has W11 gd 26 #[.int .i64 4294967296, .int .i64 0]) := by unfold Hid; rw [e11, ← egd]; exact has_new _ _ _
   have LD : Hid (gw < gd) := by unfold Hid; rw [← egd]; exact HW10.out.here
   have HA11 := hid (HA10.out.stays k11 HA10.out.here)
   have HB11 := hid (HB10.out.stays k11 HB10.out.here)
   have HJ11 := hid (HJ10.out.stays k11 HJ10.out.here)
   have HT11 := hid (HT10.out.stays k11 HT10.out.here)
   have HW11 := hid (HW10.out.stays k11 HW10.out.here)
   have B11 : Hid (Below w5.heap.size w5 W11) := B10.out.trans (k11.1.mono B10.out.size)
   try rw [egd]
   try rw [← e11]
   clear e11 egd k11 HA10 HB10 HJ10 HT10 HW10 B10
   have c0 : W11.cell? ⟨gw, 0, none⟩ = some (.int .i64 dx) := HW11.out.at_ 0
   have c1 : W11.cell? ⟨gw, 1, none⟩ = some (.int .i64 dy) := HW11.out.at_ 1
   go_wp2_with fail
   refine (vunit_is dx dy _ _ idx idy HU.out).mono ?_
   rintro e v12 ⟨rfl, k12⟩
   obtain ⟨W12, e12⟩ : ∃ W, W = v12.alloc (.cells #[.int .i64 ux, .int .i64 uy] 26) := ⟨_, rfl⟩
   obtain ⟨gn, egn⟩ : ∃ g, v12.heap.size = g := ⟨_, rfl⟩
   have k13 : Made W11.heap.size W11 W12 := by rw [e12]; exact k12.then_ (((Made.rfl_ _ _).cells (Nat.le_refl _) _ _).low k12.1.size)
   have HN12 : Hid (Has W12 gn 26 #[.int .i64 ux, .int .i64 uy]) := by unfold Hid; rw [e12, ← egn]; exact has_new _ _ _
   have HA12 := hid (HA11.out.stays k13 HA11.out.here)
   have HB12 := hid (HB11.out.stays k13 HB11.out.here)
   have HJ12 := hid (HJ11.out.stays k13 HJ11.out.here)
   have HT12 := hid (HT11.out.stays k13 HT11.out.here)
   have HW12 := hid (HW11.out.stays k13 HW11.out.here)
   have HD12 := hid (HD11.out.stays k13 HD11.out.here)
   have B12 : Hid (Below w5.heap.size w5 W12) := B11.out.trans (k13.1.mono B11.out.size)
   clear k12 k13 c0 c1 HA11 HB11 HJ11 HT11 HW11 HD11 B11
   go_upto_region 17 with fail
   try rw [egn]
   rw [← e12]
   clear e12 egn
   go_upto_if 102 with fail
   go_cut [13] (fun s13 wx => s13 = .bool q ∧ Hid (Has wx gd 26 #[.int .i64 nx, .int .i64 ny]) ∧ Hid (∀ g t cs, g ≠ gd → Has W12 g t cs → Has wx g t cs) ∧ Hid (Below w5.heap.size w5 wx))
   case first =>
    rcases HUQ.out with ⟨rfl, rfl, rfl⟩ | ⟨rfl, rfl, rfl⟩
    ·have n0 : W12.cell? ⟨gn, 0, none⟩ = some (.int .i64 ux) := HN12.out.at_ 0
     have n1 : W12.cell? ⟨gn, 1, none⟩ = some (.int .i64 uy) := HN12.out.at_ 1
     have d0 : W12.cell? ⟨gd, 0, none⟩ = some (.int .i64 4294967296) := HD12.out.at_ 0
     have d1 : W12.cell? ⟨gd, 1, none⟩ = some (.int .i64 0) := HD12.out.at_ 1
     have nf0 := HD12.out.free 0
     have nf1 := HD12.out.free 1
     go_wp2_with fail
     go_meet
     refine ⟨rfl, (HD12.out.put 0 (.int .i64 ux)).put 1 (.int .i64 uy), fun g t cs hg h => (h.other _ (by show g ≠ gd; exact hg) _).other _ (by show g ≠ gd; exact hg) _, (B12.out.setCell (p := ⟨gd, 0, none⟩) ?_ _).setCell (p := ⟨gd, 1, none⟩) ?_ _⟩
     all_goals have := LD.out; have := LW.out; show w5.heap.size ≤ gd; omega
    ·go_wp2_with fail
     go_meet
     exact ⟨rfl, HD12.out, fun g t cs _ h => h, B12.out⟩
   obtain ⟨rfl, HD14, HK14, B14⟩ := hcut
   have HA14 := hid (HK14.out _ _ _ (by have := LD.out; have := LW.out; omega) HA12.out)
   have HB14 := hid (HK14.out _ _ _ (by have := LD.out; have := LW.out; omega) HB12.out)
   have HJ14 := hid (HK14.out _ _ _ (by have := LD.out; have := LW.out; omega) HJ12.out)
   have HT14 := hid (HK14.out _ _ _ (by have := LD.out; have := LW.out; omega) HT12.out)
   have HW14 := hid (HK14.out _ _ _ (by have := LD.out; have := LW.out; omega) HW12.out)
   clear HA12 HB12 HJ12 HT12 HW12 HD12 HN12 B12 HK14
   -- region 19
   go_upto_region 19 with fail
   refine reg_made (by kernel_rfl) (by kernel_rfl) ?_
   intro Ty hTy fw hf
   have z0 := Class.reads hf (show wc.cell? ⟨gw, 0, none⟩ = some (.int .i64 dx) from HW14.out.at_ 0)
   have z1 := Class.reads hf (show wc.cell? ⟨gw, 1, none⟩ = some (.int .i64 dy) from HW14.out.at_ 1)
   have z2 := Class.reads hf (show wc.cell? ⟨g6, 7, none⟩ = some (.int .i64 jln) from HJ14.out.at_ 7)
   have H1 := hid (fun t => hf.drawn (x := t) (part_is 64 5 rr (fw t) (by unfold I64; omega) (by unfold I64; omega) E14.out))
   have H2 := hid (fun t => hf.made (x := t) (vlen_is dx dy ln (fw t) idx idy E11.out))
   have H3 := hid (fun t => hf.same (x := t) (sub_is ln jln lo (fw t) iln ijln E15.out))
   have H4 := hid (fun t => hf.same (x := t) (mul_is rr lo ml (fw t) irr ilo E16.out))
   repeat (go_big_quiet_step ((first
    | (go_at_call 13; with_reducible exact H1.out _)
    | (go_at_call 15; with_reducible exact H2.out _)
    | (go_at_call 14; with_reducible exact H3.out _)
    | (go_at_call 12; with_reducible exact H4.out _))))
   refine wpQuiet_nil ?_
   intro v15 h15
   have k15 := hf.here h15
   have HA15 := hid (HA14.out.stays k15 HA14.out.here)
   have HB15 := hid (HB14.out.stays k15 HB14.out.here)
   have HT15 := hid (HT14.out.stays k15 HT14.out.here)
   have HD15 := hid (HD14.out.stays k15 HD14.out.here)
   have B15 : Hid (Below w5.heap.size w5 v15) := B14.out.trans (k15.1.mono B14.out.size)
   clear h15 hf k15 z0 z1 z2 H1 H2 H3 H4 HA14 HB14 HT14 HD14 HJ14 HW14 B14
   go_upto_region 20 with fail
   refine reg_below (by kernel_rfl) (by kernel_rfl) ?_
   intro Ty hTy fw hf
   have x0 := hf.reads (show v15.cell? ⟨g7, 2, none⟩ = some (.int .i64 nx) from HT15.out.at_ 2)
   have x1 := hf.reads (show v15.cell? ⟨g7, 3, none⟩ = some (.int .i64 ny) from HT15.out.at_ 3)
   have x2 := hf.reads (show v15.cell? ⟨gd, 0, none⟩ = some (.int .i64 nx) from HD15.out.at_ 0)
   have x3 := hf.reads (show v15.cell? ⟨gd, 1, none⟩ = some (.int .i64 ny) from HD15.out.at_ 1)
   have x4 := hf.reads (show v15.cell? ⟨g7, 8, none⟩ = some (.int .i64 gg) from HT15.out.at_ 8)
   have x5 := hf.reads (show v15.cell? ⟨g7, 9, none⟩ = some (.int .i64 oo) from HT15.out.at_ 9)
   have x6 := hf.reads (show v15.cell? ⟨g7, 4, none⟩ = some (.int .i64 rax) from HT15.out.at_ 4)
   have x7 := hf.reads (show v15.cell? ⟨g7, 5, none⟩ = some (.int .i64 ray) from HT15.out.at_ 5)
   have x8 := hf.reads (show v15.cell? ⟨g7, 6, none⟩ = some (.int .i64 rbx) from HT15.out.at_ 6)
   have x9 := hf.reads (show v15.cell? ⟨g7, 7, none⟩ = some (.int .i64 rby) from HT15.out.at_ 7)
   have a0 := hf.reads (show v15.cell? ⟨gA, 0, none⟩ = some (.int .i64 a.id) from HA15.out.at_ 0)
   have a1 := hf.reads (show v15.cell? ⟨gA, 1, none⟩ = some (.int .i64 a.x) from HA15.out.at_ 1)
   have a2 := hf.reads (show v15.cell? ⟨gA, 2, none⟩ = some (.int .i64 a.y) from HA15.out.at_ 2)
   have a3 := hf.reads (show v15.cell? ⟨gA, 3, none⟩ = some (.int .i64 a.vx) from HA15.out.at_ 3)
   have a4 := hf.reads (show v15.cell? ⟨gA, 4, none⟩ = some (.int .i64 a.vy) from HA15.out.at_ 4)
   have a5 := hf.reads (show v15.cell? ⟨gA, 5, none⟩ = some (.int .i64 a.an) from HA15.out.at_ 5)
   have a6 := hf.reads (show v15.cell? ⟨gA, 6, none⟩ = some (.int .i64 a.sp) from HA15.out.at_ 6)
   have a7 := hf.reads (show v15.cell? ⟨gA, 7, none⟩ = some (.int .i64 a.de) from HA15.out.at_ 7)
   have a8 := hf.reads (show v15.cell? ⟨gA, 8, none⟩ = some (.int .i64 a.k) from HA15.out.at_ 8)
   have a9 := hf.reads (show v15.cell? ⟨gA, 9, none⟩ = some (.int .i64 a.r) from HA15.out.at_ 9)
   have a10 := hf.reads (show v15.cell? ⟨gA, 10, none⟩ = some (.slice a.ao a.n a.c) from HA15.out.at_ 10)
   have b0 := hf.reads (show v15.cell? ⟨gB, 0, none⟩ = some (.int .i64 b.id) from HB15.out.at_ 0)
   have b1 := hf.reads (show v15.cell? ⟨gB, 1, none⟩ = some (.int .i64 b.x) from HB15.out.at_ 1)
   have b2 := hf.reads (show v15.cell? ⟨gB, 2, none⟩ = some (.int .i64 b.y) from HB15.out.at_ 2)
   have b3 := hf.reads (show v15.cell? ⟨gB, 3, none⟩ = some (.int .i64 b.vx) from HB15.out.at_ 3)
   have b4 := hf.reads (show v15.cell? ⟨gB, 4, none⟩ = some (.int .i64 b.vy) from HB15.out.at_ 4)
   have b5 := hf.reads (show v15.cell? ⟨gB, 5, none⟩ = some (.int .i64 b.an) from HB15.out.at_ 5)
   have b6 := hf.reads (show v15.cell? ⟨gB, 6, none⟩ = some (.int .i64 b.sp) from HB15.out.at_ 6)
   have b7 := hf.reads (show v15.cell? ⟨gB, 7, none⟩ = some (.int .i64 b.de) from HB15.out.at_ 7)
   have b8 := hf.reads (show v15.cell? ⟨gB, 8, none⟩ = some (.int .i64 b.k) from HB15.out.at_ 8)
   have b9 := hf.reads (show v15.cell? ⟨gB, 9, none⟩ = some (.int .i64 b.r) from HB15.out.at_ 9)
   have b10 := hf.reads (show v15.cell? ⟨gB, 10, none⟩ = some (.slice b.ao b.n b.c) from HB15.out.at_ 10)
   have H1 : Hid (∀ t, Calls Tryz.prog 16 #[.agg #[.int .i64 a.id, .int .i64 a.x, .int .i64 a.y, .int .i64 a.vx, .int .i64 a.vy, .int .i64 a.an, .int .i64 a.sp, .int .i64 a.de, .int .i64 a.k, .int .i64 a.r, .slice a.ao a.n a.c], .agg #[.int .i64 b.id, .int .i64 b.x, .int .i64 b.y, .int .i64 b.vx, .int .i64 b.vy, .int .i64 b.an, .int .i64 b.sp, .int .i64 b.de, .int .i64 b.k, .int .i64 b.r, .slice b.ao b.n b.c], .agg #[.int .i64 rax, .int .i64 ray], .agg #[.int .i64 rbx, .int .i64 rby], .agg #[.int .i64 nx, .int .i64 ny]] (fw t) fun e w'' => e = .returned (.int .i64 gg) ∧ ∃ x, w'' = fw x) := fun t => hf.below (x := t) (HGV.out (fw t) (B15.out.trans ((hf.1 t).mono B15.out.size)))
   have q1 := fun t => vneq nx ny nx ny false (by simp) (fw t)
   have q2 : (gg != gg) = false := by simp
   have q3 : (oo != oo) = false := by simp
   repeat (go_big_quiet_step ((go_at_call 16; with_reducible exact H1.out _)))
   refine wpQuiet_nil ?_
   intro v16 h16
   have k16 := hf.here h16
   have B16 : Hid (Below w5.heap.size w5 v16) := B15.out.trans (k16.mono B15.out.size)
   clear h16 hf k16 x0 x1 x2 x3 x4 x5 x6 x7 x8 x9 a0 a1 a2 a3 a4 a5 a6 a7 a8 a9 a10 b0 b1 b2 b3 b4 b5 b6 b7 b8 b9 b10 H1 q1 q2 q3 HA15 HB15 HT15 HD15 B15
   go_wp2_with fail
   go_roundg (nJ - m - 1)
   case rel => exact ⟨m + 1, by omega, by go_num, B16.out⟩
   case measure => omega
  ·have e : m = nJ := by omega
   subst e
   go_wp2_with fail
   go_ret
   exact ⟨rfl, K5.out.trans (HB.out.mono K5.out.size)⟩
end Go.Proofs.YtjhcejmfiekjgaaGreat.Fx