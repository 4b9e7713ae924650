/- WoC WoI WoN WoR Fls -/
import Derived.Test.YtjhcejmfiekjgaaGreatSt0
import Derived.Test.YtjhcejmfiekjgaaGreatSt4
import Derived.Test.YtjhcejmfiekjgaaGreatSt5
import Derived.Deep.LoopGhost
import Derived.LoopN
import Derived.WalkMore
set_option maxRecDepth 100000
set_option maxHeartbeats 64000000
/- Contacts compared, found, in order. -/
namespace Go.Proofs.YtjhcejmfiekjgaaGreat.Fx
open Go.ChangeShapes Go.WideShapes Go.ChangeAt Go.RowKit
set_option linter.unusedVariables false
def cmpC (x y : Ct) : Int := if cmpG x.a y.a ≠ 0 then cmpG x.a y.a else if cmpG x.b y.b ≠ 0 then cmpG x.b y.b else cmpG x.key y.key
theorem cmpC_neg (x y : Ct) : cmpC x y < 0 ↔ LtC x y := by
 have h1 := cmpG_neg x.a y.a; have h2 := cmpG_neg x.b y.b; have h3 := cmpG_neg x.key y.key
 have g1 := cmpG_zero x.a y.a; have g2 := cmpG_zero x.b y.b
 unfold cmpC LtC
 (repeat' split) <;> omega
theorem cmpC_pos (x y : Ct) : 0 < cmpC x y ↔ LtC y x := by
 have h1 := cmpG_pos x.a y.a; have h2 := cmpG_pos x.b y.b; have h3 := cmpG_pos x.key y.key
 have g1 := cmpG_zero x.a y.a; have g2 := cmpG_zero x.b y.b
 unfold cmpC LtC
 (repeat' split) <;> omega
theorem cmpC_zero (x y : Ct) : cmpC x y = 0 ↔ x.a = y.a ∧ x.b = y.b ∧ x.key = y.key := by
 have g1 := cmpG_zero x.a y.a; have g2 := cmpG_zero x.b y.b; have g3 := cmpG_zero x.key y.key
 unfold cmpC
 (repeat' split) <;> omega
theorem cor_c (f : Nat → Int) (b : Nat) (w : World) (h : ∀ i, i < 3 → w.cell? ⟨b, i, none⟩ = some (.int .i64 (f i))) :
  Calls Tryz.prog 141 #[.slice (some ⟨b, 0, none⟩) 3 3] w fun e v => ∃ r, e = .returned (.int .i64 r) ∧ v = w ∧ ((∃ k, k < 3 ∧ f k = r ∧ r ≠ 0 ∧ ∀ j, j < k → f j = 0) ∨ (r = 0 ∧ ∀ j, j < 3 → f j = 0)) := by
 have HH := hid h
 clear h
 go_enter Tryz.func141, Tryz.ntmps141
 go_wp2_with fail
 go_loopg [5, 8] 3 (fun gg s5 s8 wx => ∃ k : Nat, k + gg = 3 ∧ s8 = .int .i64 (k : Nat) ∧ wx = w ∧ Hid (∀ j, j < k → f j = 0))
 case atStart => exact ⟨0, by omega, rfl, rfl, fun j hj => absurd hj (Nat.not_lt_zero _)⟩
 case round =>
  obtain ⟨k, hk, rfl, rfl, HB⟩ := hrel
  by_cases hlt : k < 3
  ·obtain ⟨z, ez⟩ : ∃ z, f k = z := ⟨_, rfl⟩
   have a0 := HH.out k hlt
   rw [ez] at a0
   have EZ := hid ez
   clear ez
   by_cases hz : z = 0
   ·have q : (z != 0) = false := by simp [hz]
    have HZ := hid hz
    clear hz
    go_wp2_with fail
    go_roundg (3 - (k + 1))
    case measure => omega
    case rel =>
     refine ⟨k + 1, by omega, by go_num, rfl, fun j hj => ?_⟩
     by_cases e : j = k
     ·subst e; exact EZ.out.trans HZ.out
     ·exact HB.out j (by omega)
   ·have q : (z != 0) = true := by simpa using hz
    have HZ := hid hz
    clear hz
    go_wp2_with fail
    go_ret
    exact ⟨_, rfl, rfl, .inl ⟨k, hlt, EZ.out, HZ.out, HB.out⟩⟩
  ·go_wp2_with fail
   go_ret
   have e : k = 3 := by omega
   subst e
   exact ⟨_, rfl, rfl, .inr ⟨rfl, HB.out⟩⟩
theorem cmpW_s (a b r : Int) (w : World) (h : cmpG a b = r) : Calls Tryz.prog 59 #[.int .i64 a, .int .i64 b] w fun e w' => e = .returned (.int .i64 r) ∧ w = w' := by
 subst h
 exact (cmpW_c a b w).mono fun _ _ ⟨x, y⟩ => ⟨x, y.symm⟩
theorem compareC_c (x y : Ct) (w : World) : Calls Tryz.prog 118 #[ctV x, ctV y] w fun e v => e = .returned (.int .i64 (cmpC x y)) ∧ Made w.heap.size w v := by
 have HC : Hid (∀ r, ((∃ k, k < 3 ∧ (fun i => if i = 0 then cmpG x.a y.a else if i = 1 then cmpG x.b y.b else cmpG x.key y.key) k = r ∧ r ≠ 0 ∧ ∀ j, j < k → (fun i => if i = 0 then cmpG x.a y.a else if i = 1 then cmpG x.b y.b else cmpG x.key y.key) j = 0) ∨ (r = 0 ∧ ∀ j, j < 3 → (fun i => if i = 0 then cmpG x.a y.a else if i = 1 then cmpG x.b y.b else cmpG x.key y.key) j = 0)) → r = cmpC x y) := by
  intro r h
  unfold cmpC
  rcases h with ⟨k, hk, h1, h2, h3⟩ | ⟨rfl, h⟩
  ·match k, hk with
   | 0, _ => simp at h1; rw [if_pos (by rw [h1]; exact h2)]; exact h1.symm
   | 1, _ =>
    have := h3 0 (by omega)
    simp at h1 this
    rw [if_neg (by rw [this]; simp), if_pos (by rw [h1]; exact h2)]; exact h1.symm
   | 2, _ =>
    have a := h3 0 (by omega)
    have b := h3 1 (by omega)
    simp at h1 a b
    rw [if_neg (by rw [a]; simp), if_neg (by rw [b]; simp)]; exact h1.symm
  ·have a := h 0 (by omega)
   have b := h 1 (by omega)
   have c := h 2 (by omega)
   simp at a b c
   rw [if_neg (by rw [a]; simp), if_neg (by rw [b]; simp)]; exact c.symm
 generalize cmpC x y = R at HC ⊢
 obtain ⟨x0, x1, x2, x3, x4⟩ := x
 obtain ⟨y0, y1, y2, y3, y4⟩ := y
 simp only [] at HC ⊢
 obtain ⟨p0, e0⟩ : ∃ z, cmpG x0 y0 = z := ⟨_, rfl⟩
 obtain ⟨p1, e1⟩ : ∃ z, cmpG x1 y1 = z := ⟨_, rfl⟩
 obtain ⟨p2, e2⟩ : ∃ z, cmpG x2 y2 = z := ⟨_, rfl⟩
 rw [e0, e1, e2] at HC
 have E0 := hid e0; have E1 := hid e1; have E2 := hid e2
 clear e0 e1 e2
 go_enter Tryz.func118, Tryz.ntmps118
 go_wp2_with fail
 refine reg_made_tail 15 (by kernel_rfl) (by kernel_rfl) ?_
 intro T hT fw hf
 have a0 := Class.reads hf (p := ⟨w.heap.size, 0, none⟩) (u := .int .i64 x0) (by go_simp)
 have b0 := Class.reads hf (p := ⟨w.heap.size + 1, 0, none⟩) (u := .int .i64 y0) (by go_simp)
 have a1 := Class.reads hf (p := ⟨w.heap.size, 1, none⟩) (u := .int .i64 x1) (by go_simp)
 have b1 := Class.reads hf (p := ⟨w.heap.size + 1, 1, none⟩) (u := .int .i64 y1) (by go_simp)
 have a2 := Class.reads hf (p := ⟨w.heap.size, 2, none⟩) (u := .int .i64 x2) (by go_simp)
 have b2 := Class.reads hf (p := ⟨w.heap.size + 1, 2, none⟩) (u := .int .i64 y2) (by go_simp)
 simp only [List.take_succ_cons, List.take_zero, List.drop_succ_cons, List.drop_zero]
 repeat (go_big_quiet_step ((first
  | (go_at_call 59; with_reducible exact hf.same (cmpW_s _ _ _ _ E0.out))
  | (go_at_call 59; with_reducible exact hf.same (cmpW_s _ _ _ _ E1.out))
  | (go_at_call 59; with_reducible exact hf.same (cmpW_s _ _ _ _ E2.out)))))
 refine wpQuiet_nil ?_
 intro w3 h3
 have k3 := hf.here h3
 have K3 := hid (made_box (made_box k3))
 clear a0 a1 a2 b0 b1 b2 hf h3 k3
 go_wp2_with fail
 refine (cor_c (fun i => if i = 0 then p0 else if i = 1 then p1 else p2) w3.heap.size _ (fun i hi => by
  match i, hi with
  | 0, _ => exact (has_new _ _ _).at_ 0
  | 1, _ => exact (has_new _ _ _).at_ 1
  | 2, _ => exact (has_new _ _ _).at_ 2)).mono ?_
 rintro e w4 ⟨r, rfl, rfl, h⟩
 have e := HC.out r h
 subst e
 go_wp2_with fail
 go_ret
 exact ⟨rfl, K3.out.cells K3.out.1.size _ _⟩
theorem contact1_c (z x : Ct) (gi : Nat) (u : World) (h0 : Has u gi 118 #[.int .i64 z.a, .int .i64 z.b, .int .i64 z.key, .int .i64 z.n, .int .i64 z.t]) :
  Calls Tryz.prog 117 #[ctV x, .pointer (some ⟨gi, 0, none⟩)] u fun e v => e = .returned (.int .i64 (cmpC z x)) ∧ Made u.heap.size u v := by
 have hlt : gi < u.heap.size := h0.here
 have H := hid (fun w => compareC_c z x w)
 obtain ⟨x0, x1, x2, x3, x4⟩ := x
 obtain ⟨z0, z1, z2, z3, z4⟩ := z
 have b0 := h0.at_ 0
 have b1 := h0.at_ 1
 have b2 := h0.at_ 2
 have b3 := h0.at_ 3
 have b4 := h0.at_ 4
 simp at b0 b1 b2 b3 b4
 clear h0
 generalize cmpC _ _ = r at H ⊢
 go_enter Tryz.func117, Tryz.ntmps117
 go_wp2_with (go_at_call 118; refine (H.out _).mono ?_; rintro e w' ⟨rfl, k⟩)
 go_ret
 exact ⟨rfl, made_box k⟩
theorem wcontact_c (tk nb nj gx gy : Int) (ob oj : Option Addr) (nn cb nj' cj : Nat) {l : List Ct} {ao : Option Addr} {n c : Nat} {w : World} (a b key : Int) (hn : l.length = n) (hmx : n ≤ 1073741824) (hl : LsT encC 5 w ao l) (hup : l.Pairwise LtC) :
  Calls Tryz.prog 82 #[wdV tk nb nj gx gy (.slice ob nn cb) (.slice oj nj' cj) (.slice ao n c), .int .i64 a, .int .i64 b, .int .i64 key] w fun e v => ∃ (x : Ct) (r : Bool), e = .returned (.tuple #[ctV x, .bool r]) ∧ Made w.heap.size w v ∧ (r = true → x ∈ l ∧ x.a = a ∧ x.b = b ∧ x.key = key) ∧ (r = false → x = ⟨0, 0, 0, 0, 0⟩ ∧ ∀ y ∈ l, ¬ (y.a = a ∧ y.b = b ∧ y.key = key)) := by
 obtain ⟨W, eW⟩ : ∃ W, W = ((w.alloc (.cells #[.int .i64 tk, .int .i64 nb, .int .i64 nj, .int .i64 gx, .int .i64 gy, .slice ob nn cb, .slice oj nj' cj, .slice ao n c] 31)).alloc (.cells #[.int .i64 0, .int .i64 0, .int .i64 0, .int .i64 0, .int .i64 0] 118)) := ⟨_, rfl⟩
 have kW : Made w.heap.size w W := by rw [eW]; exact ((Made.rfl_ _ _).cells (Nat.le_refl _) _ _).cells (by simp) _ _
 have hW : Has W w.heap.size 31 #[.int .i64 tk, .int .i64 nb, .int .i64 nj, .int .i64 gx, .int .i64 gy, .slice ob nn cb, .slice oj nj' cj, .slice ao n c] := by rw [eW]; exact (has_new _ _ _).more _
 have hR : Has W (w.heap.size + 1) 118 #[.int .i64 0, .int .i64 0, .int .i64 0, .int .i64 0, .int .i64 0] := by rw [eW]; exact has_nxt' _ _ _ _
 have hsz : W.heap.size = w.heap.size + 2 := by rw [eW]; simp
 obtain ⟨V, eV⟩ : ∃ V, V = W.alloc (.cells #[.int .i64 a, .int .i64 b, .int .i64 key, .int .i64 0, .int .i64 0] 118) := ⟨_, rfl⟩
 have kV : Made W.heap.size W V := by rw [eV]; exact (Made.rfl_ _ _).cells (Nat.le_refl _) _ _
 have hV : Has V W.heap.size 118 #[.int .i64 a, .int .i64 b, .int .i64 key, .int .i64 0, .int .i64 0] := by rw [eV]; exact has_new _ _ _
 have KV : Hid (Made w.heap.size w V) := kW.then_ (kV.low (by omega))
 have gx : ∀ i, i < n → ∃ x, l[i]? = some x := fun i hi => ⟨_, List.getElem?_eq_getElem (by rw [hn]; exact hi)⟩
 have HC := hid (findC_c 117 #[.pointer (some ⟨W.heap.size, 0, none⟩)] (by intro args w; rfl) (fun i => match l[i]? with | some x => cmpC ⟨a, b, key, 0, 0⟩ x | none => 0) (c := c) (w := V) hn hmx (hl.below KV.out.1)
  (fun i j hij hj h => by
   obtain ⟨x, hx⟩ := gx i (by omega)
   obtain ⟨y, hy⟩ := gx j hj
   have hxy : LtC x y := by
    have := List.pairwise_iff_getElem.1 hup i j (List.getElem?_eq_some_iff.1 hx).1 (List.getElem?_eq_some_iff.1 hy).1 hij
    simpa [(List.getElem?_eq_some_iff.1 hx).2, (List.getElem?_eq_some_iff.1 hy).2] using this
   simp only [hx, hy] at h ⊢
   have h1 := cmpC_pos ⟨a, b, key, 0, 0⟩ x
   rw [cmpC_neg]
   have h2 : ¬ LtC x ⟨a, b, key, 0, 0⟩ := fun hh => by have := h1.2 hh; omega
   unfold LtC at *
   simp only [] at *
   omega)
  (fun i x u hx hu => by
   simp only [hx]
   exact contact1_c ⟨a, b, key, 0, 0⟩ x _ u (hV.stays hu hV.here)))
 have HL := hid (fun v (k : Made w.heap.size w v) => hl.below k.1)
 have HG := hid gx
 have HN := hid hn
 have HV := hid hV
 have HW := hid (hW.stays kV hW.here)
 have HR := hid (hR.stays kV hR.here)
 obtain ⟨g2, eg2⟩ : ∃ g, W.heap.size = g := ⟨_, rfl⟩
 obtain ⟨g0, eg0⟩ : ∃ g, w.heap.size = g := ⟨_, rfl⟩
 obtain ⟨g1, eg1⟩ : ∃ g, g0 + 1 = g := ⟨_, rfl⟩
 have hg : Hid (g0 < g1 ∧ g1 < g2) := ⟨by omega, by omega⟩
 rw [eg2] at HC HV
 rw [eg0, eg1] at HR
 rw [eg0] at HW
 clear hl kW hup gx hn kV hV hW hR hsz
 go_enter Tryz.func82, Tryz.ntmps82
 go_upto_region 1 with fail
 rw [← eW]
 clear eW
 try rw [eg0]
 try rw [eg1]
 go_upto_region 2 with fail
 have eV2 := eV
 rw [← eV]
 clear eV eV2
 try rw [eg2]
 have b0 := HW.out.at_ 0
 have b1 := HW.out.at_ 1
 have b2 := HW.out.at_ 2
 have b3 := HW.out.at_ 3
 have b4 := HW.out.at_ 4
 have b5 := HW.out.at_ 5
 have b6 := HW.out.at_ 6
 have b7 := HW.out.at_ 7
 simp at b0 b1 b2 b3 b4 b5 b6 b7
 have l0 : g0 < V.heap.size := HW.out.here
 go_wp2_with fail
 refine HC.out.mono ?_
 rintro e w1 ⟨i, r, rfl, k1, h1', h2'⟩
 have h1 := hid h1'
 have h2 := hid h2'
 have K1 : Hid (Made w.heap.size w w1) := KV.out.then_ (k1.low KV.out.1.size)
 have HW1 := hid (HW.out.stays k1 HW.out.here)
 have HR1 := hid (HR.out.stays k1 HR.out.here)
 clear h1' h2' k1 b0 b1 b2 b3 b4 b5 b6 b7 l0 HW HR HV
 have r0 := HR1.out.at_ 0
 have r1 := HR1.out.at_ 1
 have r2 := HR1.out.at_ 2
 have r3 := HR1.out.at_ 3
 have r4 := HR1.out.at_ 4
 simp at r0 r1 r2 r3 r4
 have zf : ∀ i, w1.frozen? ⟨g1, i, none⟩ = false := fun i => HR1.out.free i
 have l1 : g1 < w1.heap.size := HR1.out.here
 have b0 := HW1.out.at_ 0
 have b1 := HW1.out.at_ 1
 have b2 := HW1.out.at_ 2
 have b3 := HW1.out.at_ 3
 have b4 := HW1.out.at_ 4
 have b5 := HW1.out.at_ 5
 have b6 := HW1.out.at_ 6
 have b7 := HW1.out.at_ 7
 simp at b0 b1 b2 b3 b4 b5 b6 b7
 have l0 : g0 < w1.heap.size := HW1.out.here
 cases r with
 | true =>
  obtain ⟨hin, hz⟩ := h1.out (by simp)
  obtain ⟨x, hx⟩ := HG.out i hin
  have HX := hid hx
  have HZ : Hid (cmpC ⟨a, b, key, 0, 0⟩ x = 0) := by unfold Hid; simp only [hx] at hz; exact hz
  obtain ⟨bb, off, rfl, hbl, hLB⟩ := (HL.out _ K1.out) (by rw [HN.out]; omega)
  have hcells := (hLB i _ hx).c5
  clear hx hz hLB
  obtain ⟨x0, x1, x2, x3, x4⟩ := x
  obtain ⟨a0, a1, a2, a3, a4⟩ := hcells
  simp only [] at a0 a1 a2 a3 a4
  go_wp2_with fail
  obtain ⟨U, eU⟩ : ∃ U, U = ((((w1.setCell ⟨g1, 0, none⟩ (.int .i64 x0)).setCell ⟨g1, 1, none⟩ (.int .i64 x1)).setCell ⟨g1, 2, none⟩ (.int .i64 x2)).setCell ⟨g1, 3, none⟩ (.int .i64 x3)).setCell ⟨g1, 4, none⟩ (.int .i64 x4) := ⟨_, rfl⟩
  have hU : Has U g1 118 #[.int .i64 x0, .int .i64 x1, .int .i64 x2, .int .i64 x3, .int .i64 x4] := by rw [eU]; exact ((((HR1.out.put 0 _).put 1 _).put 2 _).put 3 _).put 4 _
  have hg1 : w.heap.size ≤ g1 := by rw [eg0]; exact Nat.le_of_lt hg.out.1
  have kU : Made w.heap.size w U := by rw [eU]; exact ((((K1.out.put hg1 _).put hg1 _).put hg1 _).put hg1 _).put hg1 _
  rw [← eU]
  have q0 := hU.at_ 0
  have q1 := hU.at_ 1
  have q2 := hU.at_ 2
  have q3 := hU.at_ 3
  have q4 := hU.at_ 4
  simp at q0 q1 q2 q3 q4
  refine bodyPost_ret (v := .tuple #[ctV ⟨x0, x1, x2, x3, x4⟩, .bool true]) (by simp [results, Tryz.results82, go_sem, q0, q1, q2, q3, q4]) rfl ⟨⟨x0, x1, x2, x3, x4⟩, true, rfl, kU, fun _ => ?_, fun e => (by cases e)⟩
  have h3 := (cmpC_zero _ _).1 HZ.out
  exact ⟨List.mem_of_getElem? HX.out, h3.1.symm, h3.2.1.symm, h3.2.2.symm⟩
 | false =>
  go_wp2_with fail
  obtain ⟨U, eU⟩ : ∃ U, U = ((((w1.setCell ⟨g1, 0, none⟩ (.int .i64 0)).setCell ⟨g1, 1, none⟩ (.int .i64 0)).setCell ⟨g1, 2, none⟩ (.int .i64 0)).setCell ⟨g1, 3, none⟩ (.int .i64 0)).setCell ⟨g1, 4, none⟩ (.int .i64 0) := ⟨_, rfl⟩
  have hU : Has U g1 118 #[.int .i64 0, .int .i64 0, .int .i64 0, .int .i64 0, .int .i64 0] := by rw [eU]; exact ((((HR1.out.put 0 _).put 1 _).put 2 _).put 3 _).put 4 _
  have hg1 : w.heap.size ≤ g1 := by rw [eg0]; exact Nat.le_of_lt hg.out.1
  have kU : Made w.heap.size w U := by rw [eU]; exact ((((K1.out.put hg1 _).put hg1 _).put hg1 _).put hg1 _).put hg1 _
  rw [← eU]
  have q0 := hU.at_ 0
  have q1 := hU.at_ 1
  have q2 := hU.at_ 2
  have q3 := hU.at_ 3
  have q4 := hU.at_ 4
  simp at q0 q1 q2 q3 q4
  refine bodyPost_ret (v := .tuple #[ctV ⟨0, 0, 0, 0, 0⟩, .bool false]) (by simp [results, Tryz.results82, go_sem, q0, q1, q2, q3, q4]) rfl ⟨⟨0, 0, 0, 0, 0⟩, false, rfl, kU, fun e => (by cases e), fun _ => ⟨rfl, fun y hy e => ?_⟩⟩
  obtain ⟨j, hj⟩ := List.mem_iff_getElem?.1 hy
  have h3 := (h2.out (by simp)).2 j (by rw [← HN.out]; exact (List.getElem?_eq_some_iff.1 hj).1)
  simp only [hj] at h3
  exact h3 ((cmpC_zero _ _).2 ⟨e.1.symm, e.2.1.symm, e.2.2.symm⟩)
end Go.Proofs.YtjhcejmfiekjgaaGreat.Fx
/- IndexFunc, ContainsFunc and every over bodies, joints and contacts. -/
namespace Go.Proofs.YtjhcejmfiekjgaaGreat.Fx
open Go.ChangeShapes Go.WideShapes Go.ChangeAt Go.RowKit
set_option linter.unusedVariables false
theorem idxB_c (g : Nat) (lb : Array Value) (eg : ∀ args w, (callFunc g args).run Tryz.prog w = .ok (.enter g args) w) (X : Nat → Prop) (St : Nat → World → Prop) (p : Nat → Bool) {l : List Bd} {ao : Option Addr} {n c : Nat} {w : World}
  (hn : l.length = n) (hmx : n ≤ 4611686018427387904) (hl : LsT encB 11 w ao l) (hX : 0 < n → Offs X ao) (hS0 : St 0 w)
  (hS : ∀ i x u, l[i]? = some x → But X w u → St i u → Calls Tryz.prog g (#[bdV x] ++ lb) u fun e v => e = .returned (.bool (p i)) ∧ But X u v ∧ St (i + 1) v) :
  Calls Tryz.prog 142 #[.slice ao n c, .func (.func g) #[] lb] w fun e v => ∃ r : Int, e = .returned (.int .i64 r) ∧ But X w v ∧ ((r = -1 ∧ (∀ i, i < n → p i = false) ∧ St n v) ∨ ∃ i, i < n ∧ r = i ∧ p i = true ∧ (∀ j, j < i → p j = false) ∧ St (i + 1) v) := by
 have HN := hid hn
 have HL := hid hl
 have HX := hid hX
 have HS := hid hS
 have H0 := hid hS0
 clear hn hl hX hS hS0
 go_enter Tryz.func142, Tryz.ntmps142
 go_wp2_with fail
 go_loopg [5, 8] n (fun gg s5 s8 wx => ∃ k : Nat, k + gg = n ∧ s8 = .int .i64 k ∧ Hid (But X w wx ∧ St k wx ∧ ∀ j, j < k → p j = false))
 case atStart => exact ⟨0, by omega, rfl, But.rfl_ _ _, H0.out, fun j hj => absurd hj (Nat.not_lt_zero _)⟩
 case round =>
  obtain ⟨k, hk, rfl, HB⟩ := hrel
  by_cases hlt : k < n
  ·obtain ⟨a, ea⟩ : ∃ a, l[k]? = some a := ⟨_, List.getElem?_eq_getElem (by rw [HN.out]; omega)⟩
   obtain ⟨b, off, rfl, hbl, hLB⟩ := HL.out (by rw [HN.out]; omega)
   have hcall := HS.out k a wr ea HB.out.1 HB.out.2.1
   have hcells := ((hLB.but HB.out.1 (HX.out (by omega) b off _ rfl)) k _ ea).b11
   clear ea hLB
   obtain ⟨x0, x1, x2, x3, x4, x5, x6, x7, x8, x9, x10, x11, x12, x13⟩ := a
   obtain ⟨a0, a1, a2, a3, a4, a5, a6, a7, a8, a9, a10⟩ := hcells
   simp only [] at a0 a1 a2 a3 a4 a5 a6 a7 a8 a9 a10
   obtain ⟨q, eq⟩ : ∃ q, p k = q := ⟨_, rfl⟩
   rw [eq] at hcall
   have EQ := hid eq
   clear eq
   cases q with
   | true =>
    go_wp2_with (go_at_fn g; refine hcall.mono ?_; rintro e w' ⟨rfl, k1, k2⟩)
    go_ret
    exact ⟨_, rfl, HB.out.1.then_ k1, .inr ⟨k, hlt, rfl, EQ.out, HB.out.2.2, k2⟩⟩
   | false =>
    go_wp2_with (go_at_fn g; refine hcall.mono ?_; rintro e w' ⟨rfl, k1, k2⟩)
    go_roundg (n - (k + 1))
    case measure => omega
    case rel =>
     refine ⟨k + 1, by omega, by go_num, HB.out.1.then_ k1, k2, fun j hj => ?_⟩
     by_cases e : j = k
     ·subst e; exact EQ.out
     ·exact HB.out.2.2 j (by omega)
  ·go_wp2_with fail
   go_ret
   have e : k = n := by omega
   subst e
   exact ⟨_, rfl, HB.out.1, .inl ⟨rfl, HB.out.2.2, HB.out.2.1⟩⟩
theorem idxJ_c (g : Nat) (lb : Array Value) (eg : ∀ args w, (callFunc g args).run Tryz.prog w = .ok (.enter g args) w) (X : Nat → Prop) (St : Nat → World → Prop) (p : Nat → Bool) {l : List Jt} {ao : Option Addr} {n c : Nat} {w : World}
  (hn : l.length = n) (hmx : n ≤ 4611686018427387904) (hl : LsT encJ 8 w ao l) (hX : 0 < n → Offs X ao) (hS0 : St 0 w)
  (hS : ∀ i x u, l[i]? = some x → But X w u → St i u → Calls Tryz.prog g (#[jtV x] ++ lb) u fun e v => e = .returned (.bool (p i)) ∧ But X u v ∧ St (i + 1) v) :
  Calls Tryz.prog 143 #[.slice ao n c, .func (.func g) #[] lb] w fun e v => ∃ r : Int, e = .returned (.int .i64 r) ∧ But X w v ∧ ((r = -1 ∧ (∀ i, i < n → p i = false) ∧ St n v) ∨ ∃ i, i < n ∧ r = i ∧ p i = true ∧ (∀ j, j < i → p j = false) ∧ St (i + 1) v) := by
 have HN := hid hn
 have HL := hid hl
 have HX := hid hX
 have HS := hid hS
 have H0 := hid hS0
 clear hn hl hX hS hS0
 go_enter Tryz.func143, Tryz.ntmps143
 go_wp2_with fail
 go_loopg [5, 8] n (fun gg s5 s8 wx => ∃ k : Nat, k + gg = n ∧ s8 = .int .i64 k ∧ Hid (But X w wx ∧ St k wx ∧ ∀ j, j < k → p j = false))
 case atStart => exact ⟨0, by omega, rfl, But.rfl_ _ _, H0.out, fun j hj => absurd hj (Nat.not_lt_zero _)⟩
 case round =>
  obtain ⟨k, hk, rfl, HB⟩ := hrel
  by_cases hlt : k < n
  ·obtain ⟨a, ea⟩ : ∃ a, l[k]? = some a := ⟨_, List.getElem?_eq_getElem (by rw [HN.out]; omega)⟩
   obtain ⟨b, off, rfl, hbl, hLB⟩ := HL.out (by rw [HN.out]; omega)
   have hcall := HS.out k a wr ea HB.out.1 HB.out.2.1
   have hcells := ((hLB.but HB.out.1 (HX.out (by omega) b off _ rfl)) k _ ea).j8
   clear ea hLB
   obtain ⟨x0, x1, x2, x3, x4, x5, x6, x7⟩ := a
   obtain ⟨a0, a1, a2, a3, a4, a5, a6, a7⟩ := hcells
   simp only [] at a0 a1 a2 a3 a4 a5 a6 a7
   obtain ⟨q, eq⟩ : ∃ q, p k = q := ⟨_, rfl⟩
   rw [eq] at hcall
   have EQ := hid eq
   clear eq
   cases q with
   | true =>
    go_wp2_with (go_at_fn g; refine hcall.mono ?_; rintro e w' ⟨rfl, k1, k2⟩)
    go_ret
    exact ⟨_, rfl, HB.out.1.then_ k1, .inr ⟨k, hlt, rfl, EQ.out, HB.out.2.2, k2⟩⟩
   | false =>
    go_wp2_with (go_at_fn g; refine hcall.mono ?_; rintro e w' ⟨rfl, k1, k2⟩)
    go_roundg (n - (k + 1))
    case measure => omega
    case rel =>
     refine ⟨k + 1, by omega, by go_num, HB.out.1.then_ k1, k2, fun j hj => ?_⟩
     by_cases e : j = k
     ·subst e; exact EQ.out
     ·exact HB.out.2.2 j (by omega)
  ·go_wp2_with fail
   go_ret
   have e : k = n := by omega
   subst e
   exact ⟨_, rfl, HB.out.1, .inl ⟨rfl, HB.out.2.2, HB.out.2.1⟩⟩
theorem idxC_c (g : Nat) (lb : Array Value) (eg : ∀ args w, (callFunc g args).run Tryz.prog w = .ok (.enter g args) w) (X : Nat → Prop) (St : Nat → World → Prop) (p : Nat → Bool) {l : List Ct} {ao : Option Addr} {n c : Nat} {w : World}
  (hn : l.length = n) (hmx : n ≤ 4611686018427387904) (hl : LsT encC 5 w ao l) (hX : 0 < n → Offs X ao) (hS0 : St 0 w)
  (hS : ∀ i x u, l[i]? = some x → But X w u → St i u → Calls Tryz.prog g (#[ctV x] ++ lb) u fun e v => e = .returned (.bool (p i)) ∧ But X u v ∧ St (i + 1) v) :
  Calls Tryz.prog 144 #[.slice ao n c, .func (.func g) #[] lb] w fun e v => ∃ r : Int, e = .returned (.int .i64 r) ∧ But X w v ∧ ((r = -1 ∧ (∀ i, i < n → p i = false) ∧ St n v) ∨ ∃ i, i < n ∧ r = i ∧ p i = true ∧ (∀ j, j < i → p j = false) ∧ St (i + 1) v) := by
 have HN := hid hn
 have HL := hid hl
 have HX := hid hX
 have HS := hid hS
 have H0 := hid hS0
 clear hn hl hX hS hS0
 go_enter Tryz.func144, Tryz.ntmps144
 go_wp2_with fail
 go_loopg [5, 8] n (fun gg s5 s8 wx => ∃ k : Nat, k + gg = n ∧ s8 = .int .i64 k ∧ Hid (But X w wx ∧ St k wx ∧ ∀ j, j < k → p j = false))
 case atStart => exact ⟨0, by omega, rfl, But.rfl_ _ _, H0.out, fun j hj => absurd hj (Nat.not_lt_zero _)⟩
 case round =>
  obtain ⟨k, hk, rfl, HB⟩ := hrel
  by_cases hlt : k < n
  ·obtain ⟨a, ea⟩ : ∃ a, l[k]? = some a := ⟨_, List.getElem?_eq_getElem (by rw [HN.out]; omega)⟩
   obtain ⟨b, off, rfl, hbl, hLB⟩ := HL.out (by rw [HN.out]; omega)
   have hcall := HS.out k a wr ea HB.out.1 HB.out.2.1
   have hcells := ((hLB.but HB.out.1 (HX.out (by omega) b off _ rfl)) k _ ea).c5
   clear ea hLB
   obtain ⟨x0, x1, x2, x3, x4⟩ := a
   obtain ⟨a0, a1, a2, a3, a4⟩ := hcells
   simp only [] at a0 a1 a2 a3 a4
   obtain ⟨q, eq⟩ : ∃ q, p k = q := ⟨_, rfl⟩
   rw [eq] at hcall
   have EQ := hid eq
   clear eq
   cases q with
   | true =>
    go_wp2_with (go_at_fn g; refine hcall.mono ?_; rintro e w' ⟨rfl, k1, k2⟩)
    go_ret
    exact ⟨_, rfl, HB.out.1.then_ k1, .inr ⟨k, hlt, rfl, EQ.out, HB.out.2.2, k2⟩⟩
   | false =>
    go_wp2_with (go_at_fn g; refine hcall.mono ?_; rintro e w' ⟨rfl, k1, k2⟩)
    go_roundg (n - (k + 1))
    case measure => omega
    case rel =>
     refine ⟨k + 1, by omega, by go_num, HB.out.1.then_ k1, k2, fun j hj => ?_⟩
     by_cases e : j = k
     ·subst e; exact EQ.out
     ·exact HB.out.2.2 j (by omega)
  ·go_wp2_with fail
   go_ret
   have e : k = n := by omega
   subst e
   exact ⟨_, rfl, HB.out.1, .inl ⟨rfl, HB.out.2.2, HB.out.2.1⟩⟩
end Go.Proofs.YtjhcejmfiekjgaaGreat.Fx
/- What may be: numbered, rightBodies, rightJoints, rightContacts, Right. -/
namespace Go.Proofs.YtjhcejmfiekjgaaGreat.Fx
open Go.ChangeShapes Go.WideShapes Go.ChangeAt Go.RowKit
set_option linter.unusedVariables false
def prevF (ids : List Int) : Nat → Int
 | 0 => 0
 | i + 1 => ids.getD i 0
end Go.Proofs.YtjhcejmfiekjgaaGreat.Fx
/- What may be: rightBodies, rightJoints, rightContacts, Right. -/
namespace Go.Proofs.YtjhcejmfiekjgaaGreat.Fx
open Go.ChangeShapes Go.WideShapes Go.ChangeAt Go.RowKit
set_option linter.unusedVariables false
noncomputable def bodyB (b : Bd) : Bool := @decide (BodyP b) (Classical.propDecidable _)
def qOf {α : Type} (l : List α) (p : α → Bool) (i : Nat) : Bool := match l[i]? with | some x => p x | none => true
def BdsIn (w : World) (B : List Bd) : Prop := ∀ b ∈ B, Sl w b.ao b.n b.f ∧ BdI b
theorem BdsIn.kept {w v : World} {B : List Bd} (h : BdsIn w B) (k : Made w.heap.size w v) : BdsIn v B := fun b hb => ⟨fun hn => by
 obtain ⟨g, off, e, hp⟩ := (h b hb).1 hn
 exact ⟨g, off, e, hp.kept k⟩, (h b hb).2⟩
noncomputable def jointB (B : List Bd) (j : Jt) : Bool := @decide (JointP j ∧ j.a ∈ B.map (·.id) ∧ j.b ∈ B.map (·.id)) (Classical.propDecidable _)
def CtP (B : List Bd) (c : Ct) : Prop := c.a < c.b ∧ 0 ≤ c.key ∧ 0 ≤ c.n ∧ c.a ∈ B.map (·.id) ∧ c.b ∈ B.map (·.id)
noncomputable def contactB (B : List Bd) (c : Ct) : Bool := @decide (CtP B c) (Classical.propDecidable _)
theorem LtC.trans {x y z : Ct} (h : LtC x y) (k : LtC y z) : LtC x z := by unfold LtC at *; omega
structure WorldP (tk nb nj gx gy : Int) (B : List Bd) (J : List Jt) (C : List Ct) : Prop where
 tk : 0 ≤ tk ∧ tk ≤ 4611686018427387904
 gx : Inn gx 17592186044416
 gy : Inn gy 17592186044416
 hB : BodiesP B nb
 hJ : JointsP B J nj
 hC : ContactsP B C
structure WdAt (w : World) (ob : Option Addr) (B : List Bd) (oj : Option Addr) (J : List Jt) (oc : Option Addr) (C : List Ct) : Prop where
 lB : LsT encB 11 w ob B
 lJ : LsT encJ 8 w oj J
 lC : LsT encC 5 w oc C
 sB : BdsIn w B
 iJ : ∀ j ∈ J, JtI j
 iC : ∀ c ∈ C, CtI c
theorem WdAt.kept {w v : World} {ob oj oc : Option Addr} {B : List Bd} {J : List Jt} {C : List Ct} (h : WdAt w ob B oj J oc C) (k : Made w.heap.size w v) : WdAt v ob B oj J oc C :=
 ⟨h.lB.below k.1, h.lJ.below k.1, h.lC.below k.1, h.sB.kept k, h.iJ, h.iC⟩
end Go.Proofs.YtjhcejmfiekjgaaGreat.Fx
/- Regions that draw their order and make variables, with any number of operations that come up late. -/
namespace Go.Proofs.YtjhcejmfiekjgaaGreat.Fx.FS
open Go.ChangeShapes Go.WideShapes Go.ChangeAt Go.RowKit
set_option linter.unusedVariables false
section
variable {P : Program} {ops : Array Oper} {md : Region.Mode} {w : World} {al : Nat → TypeId × Array Value} {n m : Nat}
def waitB (md : Region.Mode) (ops : Array Oper) (k : Nat) (ps : List Nat) : Bool := (List.range k).all fun i => ps.contains i || Region.waitsFor md ops k i || ((List.range k).any fun j => Region.waitsFor md ops k j && Region.waitsFor md ops j i) || (down md ops 6 ((List.range k).filter fun j => Region.waitsFor md ops k j)).contains i
theorem ready_last {k i : Nat} {ps : List Nat} {got : Array Bool} (hw : waitB md ops k ps = true) (inv : HeadInv md ops k got) (hj : k ∈ Region.ready md ops got) (hi : i < k) (hun : got.getD i true = false) : i ∈ ps := by
 have h1 := List.all_eq_true.1 hw i (List.mem_range.2 hi)
 simp only [Bool.or_eq_true, List.contains_iff_mem] at h1
 obtain ⟨_, ot, hot, hall⟩ := mem_ready.1 hj
 have direct : ∀ j, Region.waitsFor md ops k j = true → got.getD j false = true := fun j h => by
  obtain ⟨o', ho', e, he, hb, hon⟩ := Region.waitsFor_spec h
  have e1 : o' = ot := Option.some.inj (ho'.symm.trans hot)
  subst e1
  rw [← hon]
  exact hall e he hb
 have no : got.getD i false = true → False := fun h => by rw [getD_both hun] at h; cases h
 rcases h1 with ((h1 | h1) | h1) | h1
 ·exact h1
 ·exact (no (direct i h1)).elim
 ·obtain ⟨j, _, h2⟩ := List.any_eq_true.1 h1
  simp only [Bool.and_eq_true] at h2
  obtain ⟨o', ho', e, he, hb, hon⟩ := Region.waitsFor_spec h2.2
  refine (no ?_).elim
  rw [← hon]
  exact inv.closed j o' ho' (direct j h2.1) e he hb
 ·exact (no (down_got inv 6 _ (fun j hj => direct j (List.mem_filter.1 hj).2) i (h1))).elim
def floatB (md : Region.Mode) (ops : Array Oper) (k : Nat) (ps : List Nat) : Bool :=
 Region.noSelect ops && decide (k < ops.size) && waitB md ops k ps && Region.chainB md ops k && Region.lexHead md ops (ops.size - k) k 0 (Array.replicate ops.size false)
end
section
variable {P : Program}
end
end Go.Proofs.YtjhcejmfiekjgaaGreat.Fx.FS