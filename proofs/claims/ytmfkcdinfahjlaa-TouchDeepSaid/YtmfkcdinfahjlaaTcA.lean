/- Contracts of package touch: round, flipped, side, beyond, moved. -/
import Derived.Test.YtmfkcdinfahjlaaTouchA
import Derived.Test.YtmfkcdinfahjlaaTouchC
import Derived.Test.YtmfkcdinfahjlaaMex
namespace Go.Proofs.Ytmfkcdinfahjlaa.Fx
open Go.ChangeShapes Go.WideShapes Go.ChangeAt Go.RowKit
set_option linter.unusedVariables false

abbrev sdV (px py qx qy nx ny : Int) : Value := .agg #[.int .i64 px, .int .i64 py, .int .i64 qx, .int .i64 qy, .int .i64 nx, .int .i64 ny]
abbrev outV (b off cap g c2 n : Nat) : Value := .agg #[.slice (some ⟨b, off, none⟩) n cap, .slice (some ⟨g, 0, none⟩) n c2]

set_option maxRecDepth 100000 in
set_option maxHeartbeats 1000000 in
theorem tround_is (X Y A K R : Int) (s : Value) (k : Bool) (ek : (K == 1) = k) (w : World) :
    Calls Try.prog 22 #[bodyV 0 X Y 0 0 A 0 0 K R s] w fun e w' => e = .returned (.bool k) ∧ Made w.heap.size w w' := by
  go_enter Try.func22, Try.ntmps22
  go_wp2_with fail
  go_ret
  exact ⟨rfl, (Made.rfl_ _ _).cells (Nat.le_refl _) _ _⟩

set_option maxRecDepth 100000 in
set_option maxHeartbeats 1000000 in
theorem tflipped_is (nx ny mx my : Int) (ao : Option Addr) (n c : Nat) (w : World) (inx : I64 nx) (iny : I64 ny) (ex : negF nx = mx) (ey : negF ny = my) :
    Calls Try.prog 26 #[tchV nx ny ao n c] w fun e w' => e = .returned (tchV mx my ao n c) ∧ Made w.heap.size w w' := by
  have EX := hid ex
  have EY := hid ey
  clear ex ey
  go_enter Try.func26, Try.ntmps26
  go_wp2_with fail
  refine (vneg_is _ _ _ _ _ inx iny EX.out EY.out).mono ?_
  rintro e w1 ⟨rfl, k1⟩
  have z0 := k1.reads (p := ⟨w.heap.size, 0, none⟩) (x := .int .i64 nx) (by go_simp)
  have z1 := k1.reads (p := ⟨w.heap.size, 1, none⟩) (x := .int .i64 ny) (by go_simp)
  have z2 := k1.reads (p := ⟨w.heap.size, 2, none⟩) (x := .slice ao n c) (by go_simp)
  have r0 := k1.reads (p := ⟨w.heap.size + 1, 0, none⟩) (x := .int .i64 0) (by go_simp)
  have r1 := k1.reads (p := ⟨w.heap.size + 1, 1, none⟩) (x := .int .i64 0) (by go_simp)
  have r2 := k1.reads (p := ⟨w.heap.size + 1, 2, none⟩) (x := .slice none 0 0) (by go_simp)
  have zf : ∀ i, w1.frozen? ⟨w.heap.size, i, none⟩ = false := fun i => (k1.2 _).trans (by go_simp)
  have rf : ∀ i, w1.frozen? ⟨w.heap.size + 1, i, none⟩ = false := fun i => (k1.2 _).trans (by go_simp)
  have M1 := hid (made_box (made_box k1))
  have l0 : w.heap.size < w1.heap.size := World.block_lt_of_cell? _ _ z0
  have l1 : w.heap.size + 1 < w1.heap.size := World.block_lt_of_cell? _ _ r0
  clear k1
  go_wp2_with fail
  refine bodyPost_ret (v := tchV mx my ao n c) (by simp [results, Try.results26, go_sem, r0, r1, r2]) rfl ⟨rfl, ?_⟩
  exact ((((M1.out.put (by simp) _).put (by simp) _).put (by simp) _).put (by simp) _).put (by simp) _

set_option maxRecDepth 100000 in
set_option maxHeartbeats 1000000 in
theorem tside_is (b off cap g c2 n i j : Nat) (P N : Cs) (px py qx qy nx ny : Int) (w : World) (hi : i < n) (h8 : n ≤ 8) (ej : (i + 1) % n = j) (hp : Pts w b off n P) (hn : Pts w g 0 n N) (ep : P i = (px, py)) (eq : P j = (qx, qy)) (en : N i = (nx, ny)) :
    Calls Try.prog 50 #[outV b off cap g c2 n, .int .i64 i] w fun e w' => e = .returned (sdV px py qx qy nx ny) ∧ Made w.heap.size w w' := by
  have hj : j < n := by rw [← ej]; exact Nat.mod_lt _ (by omega)
  obtain ⟨p0, p1⟩ := hp i hi
  obtain ⟨q0, q1⟩ := hp j hj
  obtain ⟨n0, n1⟩ := hn i hi
  rw [ep] at p0 p1
  rw [eq] at q0 q1
  rw [en] at n0 n1
  rw [Nat.zero_add] at n0 n1
  have EJ : ((i : Int) + 1).tmod n = (j : Int) := by rw [← ej]; exact (Int.ofNat_tmod (i + 1) n).symm
  have hn0 : n ≠ 0 := by omega
  have hin : (i : Int) + 1 < 9 := by omega
  clear hp hn ep eq en ej
  go_enter Try.func50, Try.ntmps50
  go_upto_region 1 with fail
  obtain ⟨W0, eW⟩ : ∃ W, W = (w.alloc (.cells #[.slice (some ⟨b, off, none⟩) n cap, .slice (some ⟨g, 0, none⟩) n c2] 69)).alloc (.cells #[.int .i64 0, .int .i64 0, .int .i64 0, .int .i64 0, .int .i64 0, .int .i64 0] 95) := ⟨_, rfl⟩
  have M0 : Hid (Made w.heap.size w W0) := by unfold Hid; rw [eW]; exact ((Made.rfl_ _ _).cells (Nat.le_refl _) _ _).cells (by simp) _ _
  have o0 : W0.cell? ⟨w.heap.size, 0, none⟩ = some (.slice (some ⟨b, off, none⟩) n cap) := by rw [eW]; go_simp
  have o1 : W0.cell? ⟨w.heap.size, 1, none⟩ = some (.slice (some ⟨g, 0, none⟩) n c2) := by rw [eW]; go_simp
  have H1 : Has W0 (w.heap.size + 1) 95 #[.int .i64 0, .int .i64 0, .int .i64 0, .int .i64 0, .int .i64 0, .int .i64 0] := by rw [eW]; exact has_next _ _ _ _
  have p0 := M0.out.reads p0
  have p1 := M0.out.reads p1
  have q0 := M0.out.reads q0
  have q1 := M0.out.reads q1
  have n0 := M0.out.reads n0
  have n1 := M0.out.reads n1
  rw [← eW]
  clear eW
  refine reg_made_tail 21 (by kernel_rfl) (by kernel_rfl) ?_
  intro T hT f hf
  have o0' := Class.reads hf o0
  have o1' := Class.reads hf o1
  have p0' := Class.reads hf p0
  have p1' := Class.reads hf p1
  have q0' := Class.reads hf q0
  have q1' := Class.reads hf q1
  have n0' := Class.reads hf n0
  have n1' := Class.reads hf n1
  simp only [List.take_succ_cons, List.take_zero, List.drop_succ_cons, List.drop_zero]
  repeat (go_big_quiet_step (fail))
  refine wpQuiet_nil ?_
  intro w1 h1
  have k1 := hf.here h1
  have H2 := H1.stays k1 H1.here
  have M1 : Hid (Made w.heap.size w w1) := M0.out.then_ (k1.low M0.out.1.size)
  have z0 := H2.at_ 0
  have z1 := H2.at_ 1
  have z2 := H2.at_ 2
  have z3 := H2.at_ 3
  have z4 := H2.at_ 4
  have z5 := H2.at_ 5
  simp at z0 z1 z2 z3 z4 z5
  have zf : ∀ i, w1.frozen? ⟨w.heap.size + 1, i, none⟩ = false := fun i => H2.free i
  have lz := H2.here
  clear k1 h1 hf o0' o1' p0' p1' q0' q1' n0' n1' H1 H2
  go_wp2_with fail
  refine bodyPost_ret (v := sdV px py qx qy nx ny) (by simp [results, Try.results50, go_sem, z0, z1, z2, z3, z4, z5]) rfl ⟨rfl, ?_⟩
  exact (((((M1.out.put (by simp) _).put (by simp) _).put (by simp) _).put (by simp) _).put (by simp) _).put (by simp) _

set_option maxRecDepth 100000 in
set_option maxHeartbeats 1000000 in
theorem tbeyond_is (px py qx qy nx ny x y r : Int) (w : World) (ipx : I64 px) (ipy : I64 py) (inx : I64 nx) (iny : I64 ny) (ix : I64 x) (iy : I64 y) (e : dotV (nx, ny) (subV (x, y) (px, py)) = r) :
    Calls Try.prog 77 #[sdV px py qx qy nx ny, vecV x y] w fun e w' => e = .returned (.int .i64 r) ∧ Made w.heap.size w w' := by
  obtain ⟨ux, eux⟩ : ∃ z, subF x px = z := ⟨_, rfl⟩
  obtain ⟨uy, euy⟩ : ∃ z, subF y py = z := ⟨_, rfl⟩
  have iux : I64 ux := by rw [← eux]; exact i64_sub _ _
  have iuy : I64 uy := by rw [← euy]; exact i64_sub _ _
  have E : Hid (addF (mulF nx ux) (mulF ny uy) = r) := by unfold Hid; rw [← eux, ← euy]; exact e
  have EUX := hid eux
  have EUY := hid euy
  clear e eux euy
  go_enter Try.func77, Try.ntmps77
  go_upto_region 1 with fail
  refine reg_made (by kernel_rfl) (by kernel_rfl) ?_
  intro T hT f hf
  have c0 := Class.reads hf (p := ⟨w.heap.size, 0, none⟩) (u := .int .i64 px) (by go_simp)
  have c1 := Class.reads hf (p := ⟨w.heap.size, 1, none⟩) (u := .int .i64 py) (by go_simp)
  have c4 := Class.reads hf (p := ⟨w.heap.size, 4, none⟩) (u := .int .i64 nx) (by go_simp)
  have c5 := Class.reads hf (p := ⟨w.heap.size, 5, none⟩) (u := .int .i64 ny) (by go_simp)
  have d0 := Class.reads hf (p := ⟨w.heap.size + 1, 0, none⟩) (u := .int .i64 x) (by go_simp)
  have d1 := Class.reads hf (p := ⟨w.heap.size + 1, 1, none⟩) (u := .int .i64 y) (by go_simp)
  repeat (go_big_quiet_step ((first
    | (go_at_call 29; with_reducible exact hf.made (vsub_is _ _ _ _ _ _ _ ix iy ipx ipy EUX.out EUY.out))
    | (go_at_call 51; with_reducible exact hf.made (vdot_is _ _ _ _ _ _ inx iny iux iuy E.out)))))
  refine wpQuiet_nil ?_
  intro w1 h1
  have k1 := hid (made_box (made_box (hf.here h1)))
  clear h1 hf c0 c1 c4 c5 d0 d1
  go_wp2_with fail
  go_ret
  exact ⟨rfl, k1.out⟩

set_option maxRecDepth 100000 in
set_option maxHeartbeats 1000000 in
theorem tmoved_is (px py qx qy x y ax ay : Int) (w : World) (i0 : I64 px) (i1 : I64 py) (i2 : I64 qx) (i3 : I64 qy) (ix : I64 x) (iy : I64 y) (hx : x < 0) (ea : moveV (px, py) (qx, qy) x y = (ax, ay)) :
    Calls Try.prog 114 #[vecV px py, vecV qx qy, .int .i64 x, .int .i64 y] w fun e w' => e = .returned (vecV ax ay) ∧ Made w.heap.size w w' := by
  obtain ⟨dx, edx⟩ : ∃ z, subF qx px = z := ⟨_, rfl⟩
  obtain ⟨dy, edy⟩ : ∃ z, subF qy py = z := ⟨_, rfl⟩
  obtain ⟨d, ed⟩ : ∃ z, subF x y = z := ⟨_, rfl⟩
  obtain ⟨r, er⟩ : ∃ z, divF x d = z := ⟨_, rfl⟩
  obtain ⟨sx, esx⟩ : ∃ z, mulF dx r = z := ⟨_, rfl⟩
  obtain ⟨sy, esy⟩ : ∃ z, mulF dy r = z := ⟨_, rfl⟩
  have idx : I64 dx := by rw [← edx]; exact i64_sub _ _
  have idy : I64 dy := by rw [← edy]; exact i64_sub _ _
  have id_ : I64 d := by rw [← ed]; exact i64_sub _ _
  have ir : I64 r := by rw [← er]; exact i64_div _ _
  have isx : I64 sx := by rw [← esx]; exact i64_mul _ _
  have isy : I64 sy := by rw [← esy]; exact i64_mul _ _
  have ea' : (addF px sx, addF py sy) = (ax, ay) := by
    rw [← ea]; unfold moveV; rw [if_pos hx]; unfold addV scaV subV; simp only []; rw [edx, edy, ed, er, esx, esy]
  have EAX : Hid (addF px sx = ax) := (Prod.mk.inj ea').1
  have EAY : Hid (addF py sy = ay) := (Prod.mk.inj ea').2
  have EDX := hid edx; have EDY := hid edy; have ED := hid ed; have ER := hid er; have ESX := hid esx; have ESY := hid esy
  clear edx edy ed er esx esy ea ea' hx
  go_enter Try.func114, Try.ntmps114
  go_wp2_with fail
  refine (sub_is _ _ _ _ ix iy ED.out).mono ?_
  rintro e w1 ⟨rfl, rfl⟩
  go_wp2_with fail
  refine (div_is _ _ _ _ ix id_ ER.out).mono ?_
  rintro e w1 ⟨rfl, dn, rfl⟩
  obtain ⟨W0, eW⟩ : ∃ W, W = (((w.alloc (.cells #[.int .i64 px, .int .i64 py] 26)).alloc (.cells #[.int .i64 qx, .int .i64 qy] 26)).alloc (.cells #[.int .i64 0, .int .i64 0] 26)).drewN dn := ⟨_, rfl⟩
  have p0 : W0.cell? ⟨w.heap.size, 0, none⟩ = some (.int .i64 px) := by rw [eW]; go_simp
  have p1 : W0.cell? ⟨w.heap.size, 1, none⟩ = some (.int .i64 py) := by rw [eW]; go_simp
  have q0 : W0.cell? ⟨w.heap.size + 1, 0, none⟩ = some (.int .i64 qx) := by rw [eW]; go_simp
  have q1 : W0.cell? ⟨w.heap.size + 1, 1, none⟩ = some (.int .i64 qy) := by rw [eW]; go_simp
  have H1 : Has W0 (w.heap.size + 1 + 1) 26 #[.int .i64 0, .int .i64 0] := by rw [eW]; simpa using (has_next (w.alloc (.cells #[.int .i64 px, .int .i64 py] 26)) (.cells #[.int .i64 qx, .int .i64 qy] 26) 26 #[.int .i64 0, .int .i64 0]).drawn dn
  have M0 : Hid (Made w.heap.size w W0) := by unfold Hid; rw [eW]; exact ((((Made.rfl_ _ _).cells (Nat.le_refl _) _ _).cells (by simp) _ _).cells (by simp; omega) _ _).draws _
  rw [← eW]
  clear eW
  go_upto_region 2 with fail
  refine reg_made_tail 7 (by kernel_rfl) (by kernel_rfl) ?_
  intro T hT f hf
  have p0' := Class.reads hf p0
  have p1' := Class.reads hf p1
  have q0' := Class.reads hf q0
  have q1' := Class.reads hf q1
  simp only [List.take_succ_cons, List.take_zero, List.drop_succ_cons, List.drop_zero]
  repeat (go_big_quiet_step ((first
    | (go_at_call 29; with_reducible exact hf.made (vsub_is _ _ _ _ _ _ _ i2 i3 i0 i1 EDX.out EDY.out))
    | (go_at_call 48; with_reducible exact hf.made (vscale_is _ _ _ _ _ _ idx idy ir ESX.out ESY.out))
    | (go_at_call 16; with_reducible exact hf.made (vadd_is _ _ _ _ _ _ _ i0 i1 isx isy EAX.out EAY.out)))))
  refine wpQuiet_nil ?_
  intro w1 h1
  have k1 := hf.here h1
  have H2 := H1.stays k1 H1.here
  have M1 : Hid (Made w.heap.size w w1) := M0.out.then_ (k1.low M0.out.1.size)
  have z0 := H2.at_ 0
  have z1 := H2.at_ 1
  simp at z0 z1
  have zf : ∀ i, w1.frozen? ⟨w.heap.size + 1 + 1, i, none⟩ = false := fun i => H2.free i
  clear k1 h1 hf p0' p1' q0' q1' H1 H2
  go_wp2_with fail
  refine bodyPost_ret (v := vecV ax ay) (by simp [results, Try.results114, go_sem, z0, z1]) rfl ⟨rfl, ?_⟩
  exact (M1.out.put (by simp; try omega) _).put (by simp; try omega) _
end Go.Proofs.Ytmfkcdinfahjlaa.Fx
