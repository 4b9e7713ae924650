/- Contracts of package touch: push. -/
import Derived.Test.YtmfkcdinfahjlaaTcF
import Derived.Test.YtmfkcdinfahjlaaTcQ
import Derived.Test.YtmfkcdinfahjlaaTcG
import Derived.Test.YtmfkcdinfahjlaaTouchI
namespace Go.Proofs.Ytmfkcdinfahjlaa.Fx
open Go.ChangeShapes Go.WideShapes Go.ChangeAt Go.RowKit
set_option linter.unusedVariables false

/-- both cuts -/
def clipO (v w x y t : Int × Int) : Option ((Int × Int) × (Int × Int)) :=
  match cutF x y v t with
  | none => none
  | some (p, q) => cutF p q w (negV t)
theorem clipV_o (N v w x y : Int × Int) (key : Int) : clipV N v w x y key = match clipO v w x y (unitP (subV w v)) with
    | none => none
    | some (p, q) => pointsF N v p q key := by
  unfold clipV clipO
  cases cutF x y v (unitP (subV w v)) with
  | none => rfl
  | some z => rfl
theorem tclip_o (vx vy wx wy nx ny px py qx qy tx ty : Int) (w : World) (i0 : I64 px) (i1 : I64 py) (i2 : I64 qx) (i3 : I64 qy) (i4 : I64 vx) (i5 : I64 vy) (i8 : I64 wx) (i9 : I64 wy) (et : unitP (subV (wx, wy) (vx, vy)) = (tx, ty))
    (o : Option ((Int × Int) × (Int × Int))) (s : Bool) (a b c d : Int) (eo : clipO (vx, vy) (wx, wy) (px, py) (qx, qy) (tx, ty) = o) (es : o.isSome = s) (ed : o.getD ((0, 0), (0, 0)) = ((a, b), (c, d))) :
    Calls Try.prog 75 #[sdV vx vy wx wy nx ny, vecV px py, vecV qx qy] w fun e w' => e = .returned (.tuple #[vecV a b, vecV c d, .bool s]) ∧ Made w.heap.size w w' := by
  unfold clipO at eo
  cases hc : cutF (px, py) (qx, qy) (vx, vy) (tx, ty) with
  | none =>
    rw [hc] at eo
    simp only [] at eo
    subst eo
    cases es
    have e1 := Prod.mk.inj ed
    have e2 := Prod.mk.inj e1.1
    have e3 := Prod.mk.inj e1.2
    obtain ⟨rfl, rfl⟩ := e2
    obtain ⟨rfl, rfl⟩ := e3
    exact tclip_no vx vy wx wy nx ny px py qx qy tx ty w i0 i1 i2 i3 i4 i5 i8 i9 et hc
  | some z =>
    obtain ⟨⟨ax, ay⟩, bx, b_y⟩ := z
    rw [hc] at eo
    simp only [] at eo
    exact tclip_yes vx vy wx wy nx ny px py qx qy tx ty w i0 i1 i2 i3 i4 i5 i8 i9 et ax ay bx b_y hc o s a b c d eo es ed
theorem clip_i64 {v w p q t : Int × Int} {a b c d : Int} {o : Option ((Int × Int) × (Int × Int))} (h0 : I64 p.1) (h1 : I64 p.2) (h2 : I64 q.1) (h3 : I64 q.2) (eo : clipO v w p q t = o) (ed : o.getD ((0, 0), (0, 0)) = ((a, b), (c, d))) : I64 a ∧ I64 b ∧ I64 c ∧ I64 d := by
  unfold clipO at eo
  cases hc : cutF p q v t with
  | none =>
    rw [hc] at eo
    simp only [] at eo
    subst eo
    have e1 := Prod.mk.inj ed
    have e2 := Prod.mk.inj e1.1
    have e3 := Prod.mk.inj e1.2
    obtain ⟨rfl, rfl⟩ := e2
    obtain ⟨rfl, rfl⟩ := e3
    unfold I64; omega
  | some z =>
    obtain ⟨⟨ax, ay⟩, bx, b_y⟩ := z
    rw [hc] at eo
    simp only [] at eo
    obtain ⟨j0, j1, j2, j3⟩ := cut_i64 h0 h1 h2 h3 hc rfl
    exact cut_i64 (p := (ax, ay)) (q := (bx, b_y)) j0 j1 j2 j3 eo ed
theorem ends_0 (a b c d : Int) (w : World) : Sem.run Try.prog (Instr.index 125 (.agg #[.int .i64 a, .int .i64 b, .int .i64 c, .int .i64 d]) (.int .i64 0)) w = .ok (.agg #[.int .i64 a, .int .i64 b]) w := by kernel_rfl
theorem ends_1 (a b c d : Int) (w : World) : Sem.run Try.prog (Instr.index 125 (.agg #[.int .i64 a, .int .i64 b, .int .i64 c, .int .i64 d]) (.int .i64 1)) w = .ok (.agg #[.int .i64 c, .int .i64 d]) w := by kernel_rfl

set_option maxRecDepth 100000 in
set_option maxHeartbeats 4000000 in
theorem tpush_no (vx vy wx wy nx ny key : Int) (b off cap g c2 m : Nat) (Q : Cs) (px py qx qy tx ty : Int) (w : World) (hm : 0 < m) (hm8 : m ≤ 8) (i4 : I64 vx) (i5 : I64 vy) (i8 : I64 wx) (i9 : I64 wy) (inx : I64 nx) (iny : I64 ny) (hk0 : 0 ≤ key) (hk1 : key ≤ 1000) (ho : OutAt w b off g m Q) (iQ : Cin Q m)
    (ep : Q (incF (nx, ny) Q m) = (px, py)) (eq : Q ((incF (nx, ny) Q m + 1) % m) = (qx, qy)) (et : unitP (subV (wx, wy) (vx, vy)) = (tx, ty)) (es : clipO (vx, vy) (wx, wy) (px, py) (qx, qy) (tx, ty) = none) :
    Calls Try.prog 55 #[sdV vx vy wx wy nx ny, outV b off cap g c2 m, .int .i64 key] w (TouchQ none w) := by
  have HO := hid ho
  have hJ : incF (nx, ny) Q m < m := by
    unfold incF
    have := botF_le (fun j => dotV (nx, ny) (normF Q m j)) (m - 1)
    omega
  have iP := iQ _ hJ
  rw [ep] at iP
  obtain ⟨i0, i1⟩ := iP
  have iP := iQ _ (Nat.mod_lt (incF (nx, ny) Q m + 1) hm)
  rw [eq] at iP
  obtain ⟨i2, i3⟩ := iP
  have HI := hid (fun w ho => tincident_is vx vy wx wy nx ny b off cap g c2 m Q px py qx qy w hm hm8 inx iny ho ep eq)
  have HC := hid (fun w => tclip_o vx vy wx wy nx ny px py qx qy tx ty w i0 i1 i2 i3 i4 i5 i8 i9 et _ _ 0 0 0 0 es rfl rfl)
  clear ho iQ ep eq et es hJ
  go_enter Try.func55, Try.ntmps55
  go_upto_region 1 with fail
  obtain ⟨W0, eW⟩ : ∃ W, W = ((w.alloc (.cells #[.int .i64 vx, .int .i64 vy, .int .i64 wx, .int .i64 wy, .int .i64 nx, .int .i64 ny] 95)).alloc (.cells #[.slice (some ⟨b, off, none⟩) m cap, .slice (some ⟨g, 0, none⟩) m c2] 69)).alloc (.cells #[.int .i64 0, .int .i64 0, .slice none 0 0] 38) := ⟨_, rfl⟩
  have M0 : Hid (Made w.heap.size w W0) := by unfold Hid; rw [eW]; exact (((Made.rfl_ _ _).cells (Nat.le_refl _) _ _).cells (by simp) _ _).cells (by simp; omega) _ _
  have s0 : W0.cell? ⟨w.heap.size, 0, none⟩ = some (.int .i64 vx) := by rw [eW]; go_simp
  have s1 : W0.cell? ⟨w.heap.size, 1, none⟩ = some (.int .i64 vy) := by rw [eW]; go_simp
  have s2 : W0.cell? ⟨w.heap.size, 2, none⟩ = some (.int .i64 wx) := by rw [eW]; go_simp
  have s3 : W0.cell? ⟨w.heap.size, 3, none⟩ = some (.int .i64 wy) := by rw [eW]; go_simp
  have s4 : W0.cell? ⟨w.heap.size, 4, none⟩ = some (.int .i64 nx) := by rw [eW]; go_simp
  have s5 : W0.cell? ⟨w.heap.size, 5, none⟩ = some (.int .i64 ny) := by rw [eW]; go_simp
  have u0 : W0.cell? ⟨w.heap.size + 1, 0, none⟩ = some (.slice (some ⟨b, off, none⟩) m cap) := by rw [eW]; go_simp
  have u1 : W0.cell? ⟨w.heap.size + 1, 1, none⟩ = some (.slice (some ⟨g, 0, none⟩) m c2) := by rw [eW]; go_simp
  have hO : Has W0 (w.heap.size + 1 + 1) 38 #[.int .i64 0, .int .i64 0, .slice none 0 0] := by rw [eW]; simpa using has_next (w.alloc (.cells #[.int .i64 vx, .int .i64 vy, .int .i64 wx, .int .i64 wy, .int .i64 nx, .int .i64 ny] 95)) (.cells #[.slice (some ⟨b, off, none⟩) m cap, .slice (some ⟨g, 0, none⟩) m c2] 69) 38 #[.int .i64 0, .int .i64 0, .slice none 0 0]
  have HO0 : Hid (OutAt W0 b off g m Q) := HO.out.kept M0.out
  have HOO := hid hO
  have lO0 := hO.here
  rw [← eW]
  clear eW hO
  refine FS.reg_late2 11 60 [9, 10] 8 9 26 26 #[.int .i64 0, .int .i64 0] #[.int .i64 0, .int .i64 0] _ _ (by kernel_rfl) (by kernel_rfl) ?hpu (fun p hp => .inl (by simp at hp; omega)) (by kernel_rfl) rfl rfl alc_V alc_V ?_
  case hpu => intro p hp o ho; simp at hp; rcases hp with rfl | rfl <;> (cases ho; exact extract_pure rfl)
  apply Exists.intro
  refine ⟨?h5, ?h6⟩
  case h5 =>
    intro T hT fw hf
    have HOx := hid (fun x => HO0.out.kept (hf.1 x))
    have s0 := Class.reads hf s0
    have s1 := Class.reads hf s1
    have s2 := Class.reads hf s2
    have s3 := Class.reads hf s3
    have s4 := Class.reads hf s4
    have s5 := Class.reads hf s5
    have u0 := Class.reads hf u0
    have u1 := Class.reads hf u1
    simp only [List.take_succ_cons, List.take_zero]
    repeat (go_big_quiet_step ((first
      | (go_at_call 76; with_reducible exact hf.made (HI.out _ (HOx.out _)))
      | (go_at_call 75; with_reducible exact hf.made (HC.out _)))))
    exact wpQuiet_nil rfl
  intro g8 g9 w1 k1 hg1 hg2 hne hh1 hh2
  have hne' : g9 ≠ g8 := fun e => hne e.symm
  have HO1 := hid (HOO.out.stays k1 lO0)
  have s0 := k1.reads s0
  have s1 := k1.reads s1
  have s2 := k1.reads s2
  have s3 := k1.reads s3
  have s4 := k1.reads s4
  have s5 := k1.reads s5
  have M1 : Hid (Made w.heap.size w w1) := M0.out.then_ (k1.low M0.out.1.size)
  have y0 := hh1.at_ 0
  have y1 := hh1.at_ 1
  have z0 := hh2.at_ 0
  have z1 := hh2.at_ 1
  simp at y0 y1 z0 z1
  have yf : ∀ i, w1.frozen? ⟨g8, i, none⟩ = false := hh1.free
  have zf : ∀ i, w1.frozen? ⟨g9, i, none⟩ = false := hh2.free
  have l8 : w.heap.size + 1 + 1 < g8 := by omega
  have l9 : w.heap.size + 1 + 1 < g9 := by omega
  clear k1 hg1 hg2 u0 u1
  simp only [List.drop_succ_cons, List.drop_zero]
  go_upto_region 2 with fail
  obtain ⟨W2, eW⟩ : ∃ W, W = (((w1.setCell ⟨g8, 0, none⟩ (.int .i64 0)).setCell ⟨g8, 1, none⟩ (.int .i64 0)).setCell ⟨g9, 0, none⟩ (.int .i64 0)).setCell ⟨g9, 1, none⟩ (.int .i64 0) := ⟨_, rfl⟩
  have M2 : Hid (Made w.heap.size w W2) := by unfold Hid; rw [eW]; exact (((M1.out.put (by simp; omega) _).put (by simp; omega) _).put (by simp; omega) _).put (by simp; omega) _
  have H8 : Hid (Has W2 g8 26 #[.int .i64 0, .int .i64 0]) := by unfold Hid; rw [eW]; exact (Has.other (Has.other (by simpa using (hh1.put 0 (.int .i64 0)).put 1 (.int .i64 0)) _ (by simp; omega) _) _ (by simp; omega) _)
  have H9 : Hid (Has W2 g9 26 #[.int .i64 0, .int .i64 0]) := by unfold Hid; rw [eW]; simpa using (((hh2.other ⟨g8, 0, none⟩ (by simp; omega) (.int .i64 0)).other ⟨g8, 1, none⟩ (by simp; omega) (.int .i64 0)).put 0 (.int .i64 0)).put 1 (.int .i64 0)
  have HO2 : Hid (Has W2 (w.heap.size + 1 + 1) 38 #[.int .i64 0, .int .i64 0, .slice none 0 0]) := by unfold Hid; rw [eW]; exact (((HO1.out.other _ (by simp; omega) _).other _ (by simp; omega) _).other _ (by simp; omega) _).other _ (by simp; omega) _
  have s0 : W2.cell? ⟨w.heap.size, 0, none⟩ = some (.int .i64 vx) := by rw [eW]; exact cell_else (by simp; omega) (cell_else (by simp; omega) (cell_else (by simp; omega) (cell_else (by simp; omega) s0)))
  have s1 : W2.cell? ⟨w.heap.size, 1, none⟩ = some (.int .i64 vy) := by rw [eW]; exact cell_else (by simp; omega) (cell_else (by simp; omega) (cell_else (by simp; omega) (cell_else (by simp; omega) s1)))
  have s2 : W2.cell? ⟨w.heap.size, 2, none⟩ = some (.int .i64 wx) := by rw [eW]; exact cell_else (by simp; omega) (cell_else (by simp; omega) (cell_else (by simp; omega) (cell_else (by simp; omega) s2)))
  have s3 : W2.cell? ⟨w.heap.size, 3, none⟩ = some (.int .i64 wy) := by rw [eW]; exact cell_else (by simp; omega) (cell_else (by simp; omega) (cell_else (by simp; omega) (cell_else (by simp; omega) s3)))
  have s4 : W2.cell? ⟨w.heap.size, 4, none⟩ = some (.int .i64 nx) := by rw [eW]; exact cell_else (by simp; omega) (cell_else (by simp; omega) (cell_else (by simp; omega) (cell_else (by simp; omega) s4)))
  have s5 : W2.cell? ⟨w.heap.size, 5, none⟩ = some (.int .i64 ny) := by rw [eW]; exact cell_else (by simp; omega) (cell_else (by simp; omega) (cell_else (by simp; omega) (cell_else (by simp; omega) s5)))
  rw [← eW]
  clear eW hh1 hh2 y0 y1 z0 z1 yf zf
  refine NoPanic.normal ?_
  have HO3 := HO2
  have lO2 := HO2.out.here
  have o0 := HO3.out.at_ 0
  have o1 := HO3.out.at_ 1
  have o2 := HO3.out.at_ 2
  simp at o0 o1 o2
  have of_ : ∀ i, W2.frozen? ⟨w.heap.size + 1 + 1, i, none⟩ = false := HO2.out.free
  go_wp2_with fail
  refine bodyPost_ret (v := .tuple #[tchV 0 0 none 0 0, .bool false]) (by simp [results, Try.results55, go_sem, o0, o1, o2]) rfl (touchq_none (by simp; omega) ?_)
  exact ((M2.out.put (by simp; try omega) _).put (by simp; try omega) _).put (by simp; try omega) _

set_option maxRecDepth 100000 in
set_option maxHeartbeats 4000000 in
theorem tpush_yes (vx vy wx wy nx ny key : Int) (b off cap g c2 m : Nat) (Q : Cs) (px py qx qy tx ty : Int) (w : World) (hm : 0 < m) (hm8 : m ≤ 8) (i4 : I64 vx) (i5 : I64 vy) (i8 : I64 wx) (i9 : I64 wy) (inx : I64 nx) (iny : I64 ny) (hk0 : 0 ≤ key) (hk1 : key ≤ 1000) (ho : OutAt w b off g m Q) (iQ : Cin Q m)
    (ep : Q (incF (nx, ny) Q m) = (px, py)) (eq : Q ((incF (nx, ny) Q m + 1) % m) = (qx, qy)) (et : unitP (subV (wx, wy) (vx, vy)) = (tx, ty)) (cx cy gx gy : Int) (es : clipO (vx, vy) (wx, wy) (px, py) (qx, qy) (tx, ty) = some ((cx, cy), (gx, gy))) :
    Calls Try.prog 55 #[sdV vx vy wx wy nx ny, outV b off cap g c2 m, .int .i64 key] w (TouchQ (pointsF (nx, ny) (vx, vy) (cx, cy) (gx, gy) key) w) := by
  have HO := hid ho
  have hJ : incF (nx, ny) Q m < m := by
    unfold incF
    have := botF_le (fun j => dotV (nx, ny) (normF Q m j)) (m - 1)
    omega
  have iP := iQ _ hJ
  rw [ep] at iP
  obtain ⟨i0, i1⟩ := iP
  have iP := iQ _ (Nat.mod_lt (incF (nx, ny) Q m + 1) hm)
  rw [eq] at iP
  obtain ⟨i2, i3⟩ := iP
  have HI := hid (fun w ho => tincident_is vx vy wx wy nx ny b off cap g c2 m Q px py qx qy w hm hm8 inx iny ho ep eq)
  have HC := hid (fun w => tclip_o vx vy wx wy nx ny px py qx qy tx ty w i0 i1 i2 i3 i4 i5 i8 i9 et _ _ cx cy gx gy es rfl rfl)
  obtain ⟨icx, icy, igx, igy⟩ := clip_i64 (p := (px, py)) (q := (qx, qy)) i0 i1 i2 i3 es rfl
  obtain ⟨i_, hi_, hz0, hz1, hz2⟩ := info_parts info_Pt
  have iHi := hid hi_; have iH0 := hid hz0; have iH1 := hid hz1; have iH2 := hid hz2
  clear hi_ hz0 hz1 hz2
  obtain ⟨L1, eL1⟩ : ∃ l, endsF (nx, ny) (vx, vy) (cx, cy) key = l := ⟨_, rfl⟩
  obtain ⟨L2, eL2⟩ : ∃ l, endsF (nx, ny) (vx, vy) (gx, gy) (key + 1) = l := ⟨_, rfl⟩
  have hL1 : L1.length ≤ 1 := by rw [← eL1]; unfold endsF; split <;> simp
  have hL2 : L2.length ≤ 1 := by rw [← eL2]; unfold endsF; split <;> simp
  have HL1 := hid eL1; have HL2 := hid eL2
  clear eL1 eL2
  clear ho iQ ep eq et es hJ
  go_enter Try.func55, Try.ntmps55
  go_upto_region 1 with fail
  obtain ⟨W0, eW⟩ : ∃ W, W = ((w.alloc (.cells #[.int .i64 vx, .int .i64 vy, .int .i64 wx, .int .i64 wy, .int .i64 nx, .int .i64 ny] 95)).alloc (.cells #[.slice (some ⟨b, off, none⟩) m cap, .slice (some ⟨g, 0, none⟩) m c2] 69)).alloc (.cells #[.int .i64 0, .int .i64 0, .slice none 0 0] 38) := ⟨_, rfl⟩
  have M0 : Hid (Made w.heap.size w W0) := by unfold Hid; rw [eW]; exact (((Made.rfl_ _ _).cells (Nat.le_refl _) _ _).cells (by simp) _ _).cells (by simp; omega) _ _
  have s0 : W0.cell? ⟨w.heap.size, 0, none⟩ = some (.int .i64 vx) := by rw [eW]; go_simp
  have s1 : W0.cell? ⟨w.heap.size, 1, none⟩ = some (.int .i64 vy) := by rw [eW]; go_simp
  have s2 : W0.cell? ⟨w.heap.size, 2, none⟩ = some (.int .i64 wx) := by rw [eW]; go_simp
  have s3 : W0.cell? ⟨w.heap.size, 3, none⟩ = some (.int .i64 wy) := by rw [eW]; go_simp
  have s4 : W0.cell? ⟨w.heap.size, 4, none⟩ = some (.int .i64 nx) := by rw [eW]; go_simp
  have s5 : W0.cell? ⟨w.heap.size, 5, none⟩ = some (.int .i64 ny) := by rw [eW]; go_simp
  have u0 : W0.cell? ⟨w.heap.size + 1, 0, none⟩ = some (.slice (some ⟨b, off, none⟩) m cap) := by rw [eW]; go_simp
  have u1 : W0.cell? ⟨w.heap.size + 1, 1, none⟩ = some (.slice (some ⟨g, 0, none⟩) m c2) := by rw [eW]; go_simp
  have hO : Has W0 (w.heap.size + 1 + 1) 38 #[.int .i64 0, .int .i64 0, .slice none 0 0] := by rw [eW]; simpa using has_next (w.alloc (.cells #[.int .i64 vx, .int .i64 vy, .int .i64 wx, .int .i64 wy, .int .i64 nx, .int .i64 ny] 95)) (.cells #[.slice (some ⟨b, off, none⟩) m cap, .slice (some ⟨g, 0, none⟩) m c2] 69) 38 #[.int .i64 0, .int .i64 0, .slice none 0 0]
  have HO0 : Hid (OutAt W0 b off g m Q) := HO.out.kept M0.out
  have HOO := hid hO
  have lO0 := hO.here
  rw [← eW]
  clear eW hO
  refine FS.reg_late2 11 60 [9, 10] 8 9 26 26 #[.int .i64 0, .int .i64 0] #[.int .i64 0, .int .i64 0] _ _ (by kernel_rfl) (by kernel_rfl) ?hpu (fun p hp => .inl (by simp at hp; omega)) (by kernel_rfl) rfl rfl alc_V alc_V ?_
  case hpu => intro p hp o ho; simp at hp; rcases hp with rfl | rfl <;> (cases ho; exact extract_pure rfl)
  apply Exists.intro
  refine ⟨?h5, ?h6⟩
  case h5 =>
    intro T hT fw hf
    have HOx := hid (fun x => HO0.out.kept (hf.1 x))
    have s0 := Class.reads hf s0
    have s1 := Class.reads hf s1
    have s2 := Class.reads hf s2
    have s3 := Class.reads hf s3
    have s4 := Class.reads hf s4
    have s5 := Class.reads hf s5
    have u0 := Class.reads hf u0
    have u1 := Class.reads hf u1
    simp only [List.take_succ_cons, List.take_zero]
    repeat (go_big_quiet_step ((first
      | (go_at_call 76; with_reducible exact hf.made (HI.out _ (HOx.out _)))
      | (go_at_call 75; with_reducible exact hf.made (HC.out _)))))
    exact wpQuiet_nil rfl
  intro g8 g9 w1 k1 hg1 hg2 hne hh1 hh2
  have hne' : g9 ≠ g8 := fun e => hne e.symm
  have HO1 := hid (HOO.out.stays k1 lO0)
  have s0 := k1.reads s0
  have s1 := k1.reads s1
  have s2 := k1.reads s2
  have s3 := k1.reads s3
  have s4 := k1.reads s4
  have s5 := k1.reads s5
  have M1 : Hid (Made w.heap.size w w1) := M0.out.then_ (k1.low M0.out.1.size)
  have y0 := hh1.at_ 0
  have y1 := hh1.at_ 1
  have z0 := hh2.at_ 0
  have z1 := hh2.at_ 1
  simp at y0 y1 z0 z1
  have yf : ∀ i, w1.frozen? ⟨g8, i, none⟩ = false := hh1.free
  have zf : ∀ i, w1.frozen? ⟨g9, i, none⟩ = false := hh2.free
  have l8 : w.heap.size + 1 + 1 < g8 := by omega
  have l9 : w.heap.size + 1 + 1 < g9 := by omega
  clear k1 hg1 hg2 u0 u1
  simp only [List.drop_succ_cons, List.drop_zero]
  go_upto_region 2 with fail
  obtain ⟨W2, eW⟩ : ∃ W, W = (((w1.setCell ⟨g8, 0, none⟩ (.int .i64 cx)).setCell ⟨g8, 1, none⟩ (.int .i64 cy)).setCell ⟨g9, 0, none⟩ (.int .i64 gx)).setCell ⟨g9, 1, none⟩ (.int .i64 gy) := ⟨_, rfl⟩
  have M2 : Hid (Made w.heap.size w W2) := by unfold Hid; rw [eW]; exact (((M1.out.put (by simp; omega) _).put (by simp; omega) _).put (by simp; omega) _).put (by simp; omega) _
  have H8 : Hid (Has W2 g8 26 #[.int .i64 cx, .int .i64 cy]) := by unfold Hid; rw [eW]; exact (Has.other (Has.other (by simpa using (hh1.put 0 (.int .i64 cx)).put 1 (.int .i64 cy)) _ (by simp; omega) _) _ (by simp; omega) _)
  have H9 : Hid (Has W2 g9 26 #[.int .i64 gx, .int .i64 gy]) := by unfold Hid; rw [eW]; simpa using (((hh2.other ⟨g8, 0, none⟩ (by simp; omega) (.int .i64 cx)).other ⟨g8, 1, none⟩ (by simp; omega) (.int .i64 cy)).put 0 (.int .i64 gx)).put 1 (.int .i64 gy)
  have HO2 : Hid (Has W2 (w.heap.size + 1 + 1) 38 #[.int .i64 0, .int .i64 0, .slice none 0 0]) := by unfold Hid; rw [eW]; exact (((HO1.out.other _ (by simp; omega) _).other _ (by simp; omega) _).other _ (by simp; omega) _).other _ (by simp; omega) _
  have s0 : W2.cell? ⟨w.heap.size, 0, none⟩ = some (.int .i64 vx) := by rw [eW]; exact cell_else (by simp; omega) (cell_else (by simp; omega) (cell_else (by simp; omega) (cell_else (by simp; omega) s0)))
  have s1 : W2.cell? ⟨w.heap.size, 1, none⟩ = some (.int .i64 vy) := by rw [eW]; exact cell_else (by simp; omega) (cell_else (by simp; omega) (cell_else (by simp; omega) (cell_else (by simp; omega) s1)))
  have s2 : W2.cell? ⟨w.heap.size, 2, none⟩ = some (.int .i64 wx) := by rw [eW]; exact cell_else (by simp; omega) (cell_else (by simp; omega) (cell_else (by simp; omega) (cell_else (by simp; omega) s2)))
  have s3 : W2.cell? ⟨w.heap.size, 3, none⟩ = some (.int .i64 wy) := by rw [eW]; exact cell_else (by simp; omega) (cell_else (by simp; omega) (cell_else (by simp; omega) (cell_else (by simp; omega) s3)))
  have s4 : W2.cell? ⟨w.heap.size, 4, none⟩ = some (.int .i64 nx) := by rw [eW]; exact cell_else (by simp; omega) (cell_else (by simp; omega) (cell_else (by simp; omega) (cell_else (by simp; omega) s4)))
  have s5 : W2.cell? ⟨w.heap.size, 5, none⟩ = some (.int .i64 ny) := by rw [eW]; exact cell_else (by simp; omega) (cell_else (by simp; omega) (cell_else (by simp; omega) (cell_else (by simp; omega) s5)))
  rw [← eW]
  clear eW hh1 hh2 y0 y1 z0 z1 yf zf
  refine NoPanic.normal ?_
  have y0 := H8.out.at_ 0
  have y1 := H8.out.at_ 1
  have z0 := H9.out.at_ 0
  have z1 := H9.out.at_ 1
  simp at y0 y1 z0 z1
  have S0 := hid s0
  have S1 := hid s1
  have S2 := hid s2
  have S3 := hid s3
  have S4 := hid s4
  have S5 := hid s5
  clear s0 s1 s2 s3 s4 s5
  have lO2 := HO2.out.here
  go_upto_region 5 with fail
  go_wp2_with fail
  clear y0 y1 z0 z1
  go_loopg [11, 32] 2 (fun gg tv j wr => ∃ (l : List Pnt) (sv : Value), sv = tv ∧ Hid (wr.ownsRow W2.heap.size 47 4 sv l.length (flatP l)) ∧ Hid (Made W2.heap.size W2 wr) ∧ ((gg = 2 ∧ j = .int .i64 0 ∧ [] = l) ∨ (gg = 1 ∧ j = .int .i64 1 ∧ L1 = l) ∨ (gg = 0 ∧ j = .int .i64 2 ∧ L1 ++ L2 = l)))
  case atStart => exact ⟨[], _, rfl, World.ownsRow_nil _ _ _ _, Made.rfl_ _ _, .inl ⟨rfl, rfl, rfl⟩⟩
  case round =>
    obtain ⟨l, sv, eo, HS, HMr, (⟨hgg, rfl, rfl⟩ | ⟨hgg, rfl, rfl⟩ | ⟨hgg, rfl, rfl⟩)⟩ := hrel
    all_goals subst eo
    · obtain ⟨x, ex_⟩ : ∃ z, dotV (nx, ny) (subV (cx, cy) (vx, vy)) = z := ⟨_, rfl⟩
      have rgx := dot_rg (nx, ny) (subV (cx, cy) (vx, vy))
      rw [ex_] at rgx
      have ED : Hid (negF x = -x) := negR rgx
      have iX : I64 x := i64_rg rgx
      obtain ⟨rg0, rg1⟩ := rgx
      have EL : Hid ((if 0 < -x then [⟨cx, cy, -x, key⟩] else []) = L1) := by unfold Hid; rw [← HL1.out]; unfold endsF; rw [ex_]
      have EX := hid ex_
      clear ex_
      have s0 := HMr.out.reads S0.out
      have s1 := HMr.out.reads S1.out
      have s2 := HMr.out.reads S2.out
      have s3 := HMr.out.reads S3.out
      have s4 := HMr.out.reads S4.out
      have s5 := HMr.out.reads S5.out
      have lsr : w.heap.size < wr.heap.size := World.block_lt_of_cell? _ _ s0
      have hx := ends_0 cx cy gx gy wr
      go_wp2_with fail
      refine (tbeyond_is _ _ _ _ _ _ _ _ _ _ i4 i5 inx iny icx icy EX.out).mono ?_
      rintro e wj ⟨rfl, kj⟩
      have HSj : Hid (wj.ownsRow W2.heap.size 47 4 sv ([] : List Pnt).length (flatP ([] : List Pnt))) := own_stays (HS.out.alloc _) kj
      have HMj : Hid (Made W2.heap.size W2 wj) := (HMr.out.cells HMr.out.1.size _ _).then_ (kj.low (HMr.out.cells HMr.out.1.size _ _).1.size)
      have e0 := kj.reads (p := ⟨wr.heap.size, 0, none⟩) (x := .int .i64 cx) (by go_simp)
      have e1 := kj.reads (p := ⟨wr.heap.size, 1, none⟩) (x := .int .i64 cy) (by go_simp)
      have lej : wr.heap.size < wj.heap.size := World.block_lt_of_cell? _ _ e0
      clear kj s0 s1 s2 s3 s4 s5
      go_wp2_with fail
      refine (neg_is _ _ _ iX ED.out).mono ?_
      rintro e wj' ⟨rfl, rfl⟩
      by_cases hpos : 0 < -x
      · have gp_ : decide (0 < -x) = true := decide_eq_true hpos
        have EL' : Hid ([⟨cx, cy, -x, key⟩] = L1) := by have := EL.out; rw [if_pos hpos] at this; exact this
        have hlw : W2.heap.size ≤ wj.heap.size := HMj.out.1.size
        have HSV : Hid (∀ b, sv.ownBlock = some b → W2.heap.size ≤ b) := fun b hb => (HSj.out.lt b hb).1
        clear EL
        go_wp2_with (at_builtin; refine wpList_append_made _ rfl (.tmp 42) (.tmp 49) 36 rfl W2.heap.size 47 i_ (.agg #[.int .i64 0, .int .i64 0, .int .i64 0, .int .i64 0]) 4 32 Try.underlying36 iHi.out iH0.out iH1.out iH2.out rfl (by decide) sv ([] : List Pnt).length (flatP ([] : List Pnt)) rfl (HSj.out.alloc _) ⟨wj.heap.size, 0, none⟩ 1 1 [.int .i64 cx, .int .i64 cy, .int .i64 (-x), .int .i64 (key)] rfl rfl (news_four _ _ _ _ _) (four_one _ _ _ _) (by unfold maxLen; simp only [List.length_nil]; omega) (by simp only [List.length_nil]; omega) (by simp; omega) (by omega) ?_)
        intro v' wk hown hgr hfr
        rw [flatP_one [] ⟨cx, cy, -x, key⟩, EL'.out] at hown
        have HMk : Hid (Made W2.heap.size W2 wk) := (HMj.out.cells (by omega) _ _).app hgr hfr (by simp; omega) (fun k hk => by have := HSV.out k hk; omega)
        have HSk : Hid (wk.ownsRow W2.heap.size 47 4 v' (L1).length (flatP (L1))) := by
          have hl : ([] : List Pnt).length + 1 = (L1).length := by rw [← EL'.out]; simp
          unfold Hid
          rw [← hl]
          exact hown
        clear hown hgr hfr e0 e1 HSj HMj
        go_wp2_with fail
        go_roundg 1
        case rel => exact ⟨L1, _, rfl, HSk, HMk, .inr (.inl ⟨rfl, by go_num, rfl⟩)⟩
        case measure => omega
      · have gp_ : decide (0 < -x) = false := decide_eq_false hpos
        have EL' : Hid (([] : List Pnt) = L1) := by have := EL.out; rw [if_neg hpos] at this; exact this
        clear EL
        go_wp2_with fail
        go_roundg 1
        case rel => exact ⟨L1, _, rfl, by rw [← EL'.out]; exact HSj, HMj, .inr (.inl ⟨rfl, by go_num, rfl⟩)⟩
        case measure => omega
    · obtain ⟨x, ex_⟩ : ∃ z, dotV (nx, ny) (subV (gx, gy) (vx, vy)) = z := ⟨_, rfl⟩
      have rgx := dot_rg (nx, ny) (subV (gx, gy) (vx, vy))
      rw [ex_] at rgx
      have ED : Hid (negF x = -x) := negR rgx
      have iX : I64 x := i64_rg rgx
      obtain ⟨rg0, rg1⟩ := rgx
      have EL : Hid ((if 0 < -x then [⟨gx, gy, -x, key + 1⟩] else []) = L2) := by unfold Hid; rw [← HL2.out]; unfold endsF; rw [ex_]
      have EX := hid ex_
      clear ex_
      have s0 := HMr.out.reads S0.out
      have s1 := HMr.out.reads S1.out
      have s2 := HMr.out.reads S2.out
      have s3 := HMr.out.reads S3.out
      have s4 := HMr.out.reads S4.out
      have s5 := HMr.out.reads S5.out
      have lsr : w.heap.size < wr.heap.size := World.block_lt_of_cell? _ _ s0
      have hx := ends_1 cx cy gx gy wr
      go_wp2_with fail
      refine (tbeyond_is _ _ _ _ _ _ _ _ _ _ i4 i5 inx iny igx igy EX.out).mono ?_
      rintro e wj ⟨rfl, kj⟩
      have HSj : Hid (wj.ownsRow W2.heap.size 47 4 sv L1.length (flatP L1)) := own_stays (HS.out.alloc _) kj
      have HMj : Hid (Made W2.heap.size W2 wj) := (HMr.out.cells HMr.out.1.size _ _).then_ (kj.low (HMr.out.cells HMr.out.1.size _ _).1.size)
      have e0 := kj.reads (p := ⟨wr.heap.size, 0, none⟩) (x := .int .i64 gx) (by go_simp)
      have e1 := kj.reads (p := ⟨wr.heap.size, 1, none⟩) (x := .int .i64 gy) (by go_simp)
      have lej : wr.heap.size < wj.heap.size := World.block_lt_of_cell? _ _ e0
      clear kj s0 s1 s2 s3 s4 s5
      go_wp2_with fail
      refine (neg_is _ _ _ iX ED.out).mono ?_
      rintro e wj' ⟨rfl, rfl⟩
      by_cases hpos : 0 < -x
      · have gp_ : decide (0 < -x) = true := decide_eq_true hpos
        have EL' : Hid ([⟨gx, gy, -x, key + 1⟩] = L2) := by have := EL.out; rw [if_pos hpos] at this; exact this
        have hlw : W2.heap.size ≤ wj.heap.size := HMj.out.1.size
        have HSV : Hid (∀ b, sv.ownBlock = some b → W2.heap.size ≤ b) := fun b hb => (HSj.out.lt b hb).1
        clear EL
        go_wp2_with (at_builtin; refine wpList_append_made _ rfl (.tmp 42) (.tmp 49) 36 rfl W2.heap.size 47 i_ (.agg #[.int .i64 0, .int .i64 0, .int .i64 0, .int .i64 0]) 4 32 Try.underlying36 iHi.out iH0.out iH1.out iH2.out rfl (by decide) sv L1.length (flatP L1) rfl (HSj.out.alloc _) ⟨wj.heap.size, 0, none⟩ 1 1 [.int .i64 gx, .int .i64 gy, .int .i64 (-x), .int .i64 (key + 1)] rfl rfl (news_four _ _ _ _ _) (four_one _ _ _ _) (by unfold maxLen; omega) (by omega) (by simp; omega) (by omega) ?_)
        intro v' wk hown hgr hfr
        rw [flatP_one L1 ⟨gx, gy, -x, key + 1⟩, EL'.out] at hown
        have HMk : Hid (Made W2.heap.size W2 wk) := (HMj.out.cells (by omega) _ _).app hgr hfr (by simp; omega) (fun k hk => by have := HSV.out k hk; omega)
        have HSk : Hid (wk.ownsRow W2.heap.size 47 4 v' (L1 ++ L2).length (flatP (L1 ++ L2))) := by
          have hl : L1.length + 1 = (L1 ++ L2).length := by rw [← EL'.out]; simp
          unfold Hid
          rw [← hl]
          exact hown
        clear hown hgr hfr e0 e1 HSj HMj
        go_wp2_with fail
        go_roundg 0
        case rel => exact ⟨L1 ++ L2, _, rfl, HSk, HMk, .inr (.inr ⟨rfl, by go_num, rfl⟩)⟩
        case measure => omega
      · have gp_ : decide (0 < -x) = false := decide_eq_false hpos
        have EL' : Hid (([] : List Pnt) = L2) := by have := EL.out; rw [if_neg hpos] at this; exact this
        clear EL
        go_wp2_with fail
        go_roundg 0
        case rel => exact ⟨L1 ++ L2, _, rfl, by rw [← EL'.out]; rw [List.append_nil]; exact HSj, HMj, .inr (.inr ⟨rfl, by go_num, rfl⟩)⟩
        case measure => omega
    · have HT : Hid (pointsF (nx, ny) (vx, vy) (cx, cy) (gx, gy) key = if L1 ++ L2 = [] then none else some ⟨nx, ny, L1 ++ L2⟩) := by unfold Hid pointsF; rw [HL1.out, HL2.out]
      obtain ⟨ao', c', rfl, hpt⟩ := PtsT.of_own HS.out
      have HPt := hid hpt
      have HPb : Hid (∀ bb oo, ao' = some ⟨bb, oo, none⟩ → bb ≠ w.heap.size + 1 + 1) := fun bb oo e => by
        have := (HS.out.lt bb (by rw [e]; rfl)).1
        omega
      have HPg : Hid (0 < (L1 ++ L2).length → ∃ g', ao' = some ⟨g', 0, none⟩ ∧ W2.heap.size ≤ g') := fun hl => by
        rcases HS.out.2 with ⟨_, h0⟩ | ⟨g', cap', cur, hv, hb, _⟩
        · omega
        · refine ⟨g', ?_, hb⟩
          have := hv
          simp at this
          exact this.1
      have lW2 := M2.out.1.size
      have HO3 := hid (HO2.out.stays HMr.out lO2)
      have lO3 := HO3.out.here
      have o0 := HO3.out.at_ 0
      have o1 := HO3.out.at_ 1
      have o2 := HO3.out.at_ 2
      simp at o0 o1 o2
      have of_ : ∀ i, wr.frozen? ⟨w.heap.size + 1 + 1, i, none⟩ = false := HO3.out.free
      have MO : Hid (Made w.heap.size w wr) := M2.out.then_ (HMr.out.low M2.out.1.size)
      have s4 := HMr.out.reads S4.out
      have s5 := HMr.out.reads S5.out
      clear hpt
      by_cases hnil : L1 ++ L2 = []
      · have HT' : Hid (pointsF (nx, ny) (vx, vy) (cx, cy) (gx, gy) key = none) := by have := HT.out; rw [if_pos hnil] at this; exact this
        have hl0 : ((L1.length + L2.length : Nat) : Int) = 0 := by rw [← List.length_append, hnil]; rfl
        have hl1 : (L1.length : Int) + (L2.length : Int) = 0 := by omega
        clear HT
        go_wp2_with fail
        rw [HT'.out]
        refine bodyPost_ret (v := .tuple #[tchV 0 0 none 0 0, .bool false]) (by simp [results, Try.results55, go_sem, o0, o1, o2]) rfl (touchq_none (by simp; omega) ?_)
        exact ((MO.out.put (by simp; try omega) _).put (by simp; try omega) _).put (by simp; try omega) _
      · have HT' : Hid (pointsF (nx, ny) (vx, vy) (cx, cy) (gx, gy) key = some ⟨nx, ny, L1 ++ L2⟩) := by have := HT.out; rw [if_neg hnil] at this; exact this
        have hl0 : ¬ ((L1.length + L2.length : Nat) : Int) = 0 := by
          rw [← List.length_append]
          intro h
          exact hnil (List.length_eq_zero_iff.1 (by omega))
        have hl1 : ¬ (L1.length : Int) + (L2.length : Int) = 0 := by omega
        clear HT
        go_wp2_with fail
        rw [HT'.out]
        refine bodyPost_ret (v := .tuple #[tchV nx ny ao' (L1 ++ L2).length c', .bool true]) (by simp [results, Try.results55, go_sem, o0, o1, o2]) rfl ?_
        have hl : 0 < (L1 ++ L2).length := List.length_pos_iff.2 hnil
        obtain ⟨g', rfl, hg'⟩ := HPg.out hl
        refine ⟨g', c', by omega, rfl, hl, ?_, ?_⟩
        · intro hl
          obtain ⟨bb, oo, eb, hb⟩ := HPt.out hl
          have hbw : bb ≠ w.heap.size + 1 + 1 := HPb.out bb oo eb
          exact ⟨bb, oo, eb, fun i p hi => by
            obtain ⟨r0, r1, r2, r3⟩ := hb i p hi
            exact ⟨cell_else (by simpa using hbw) (cell_else (by simpa using hbw) (cell_else (by simpa using hbw) r0)), cell_else (by simpa using hbw) (cell_else (by simpa using hbw) (cell_else (by simpa using hbw) r1)), cell_else (by simpa using hbw) (cell_else (by simpa using hbw) (cell_else (by simpa using hbw) r2)), cell_else (by simpa using hbw) (cell_else (by simpa using hbw) (cell_else (by simpa using hbw) r3))⟩⟩
        · exact ((MO.out.put (by simp; try omega) _).put (by simp; try omega) _).put (by simp; try omega) _

theorem tpush_is (vx vy wx wy nx ny key : Int) (b off cap g c2 m : Nat) (Q : Cs) (w : World) (hm : 0 < m) (hm8 : m ≤ 8) (i4 : I64 vx) (i5 : I64 vy) (i8 : I64 wx) (i9 : I64 wy) (inx : I64 nx) (iny : I64 ny) (hk0 : 0 ≤ key) (hk1 : key ≤ 1000) (ho : OutAt w b off g m Q) (iQ : Cin Q m)
    (t : Option Tch) (et : clipV (nx, ny) (vx, vy) (wx, wy) (Q (incF (nx, ny) Q m)) (Q ((incF (nx, ny) Q m + 1) % m)) key = t) :
    Calls Try.prog 55 #[sdV vx vy wx wy nx ny, outV b off cap g c2 m, .int .i64 key] w (TouchQ t w) := by
  rw [clipV_o] at et
  cases hc : clipO (vx, vy) (wx, wy) (Q (incF (nx, ny) Q m)) (Q ((incF (nx, ny) Q m + 1) % m)) (unitP (subV (wx, wy) (vx, vy))) with
  | none =>
    rw [hc] at et
    simp only [] at et
    subst et
    exact tpush_no vx vy wx wy nx ny key b off cap g c2 m Q _ _ _ _ _ _ w hm hm8 i4 i5 i8 i9 inx iny hk0 hk1 ho iQ rfl rfl rfl hc
  | some z =>
    obtain ⟨⟨cx, cy⟩, gx, gy⟩ := z
    rw [hc] at et
    simp only [] at et
    subst et
    exact tpush_yes vx vy wx wy nx ny key b off cap g c2 m Q _ _ _ _ _ _ w hm hm8 i4 i5 i8 i9 inx iny hk0 hk1 ho iQ rfl rfl rfl cx cy gx gy hc
end Go.Proofs.Ytmfkcdinfahjlaa.Fx
