/- Contracts of package touch: incident, clip. -/
import Derived.Test.YtmfkcdinfahjlaaTcB
import Derived.Test.YtmfkcdinfahjlaaTcE
namespace Go.Proofs.Ytmfkcdinfahjlaa.Fx
open Go.ChangeShapes Go.WideShapes Go.ChangeAt Go.RowKit
set_option linter.unusedVariables false

/-- where the search for the least of the first m stands -/
def lowF (h : Nat → Int) (m : Nat) : Nat × Int := if m = 0 then (0, 9223372036854775807) else (botF h (m - 1), h (botF h (m - 1)))
theorem lowF_next (h : Nat → Int) (hr : ∀ i, h i ≤ 9223372036854775807) (m : Nat) : lowF h (m + 1) = if h m < (lowF h m).2 then (m, h m) else lowF h m := by
  have h0 := hr 0
  unfold lowF
  rcases m with _ | m
  · simp only [Nat.zero_add, Nat.add_one_ne_zero, if_false, if_true, Nat.sub_self]
    show (0, h 0) = if h 0 < (9223372036854775807 : Int) then (0, h 0) else (0, 9223372036854775807)
    split
    · rfl
    · rename_i g; rw [show h 0 = 9223372036854775807 by omega]
  · simp only [Nat.add_one_ne_zero, if_false, Nat.add_sub_cancel]
    show (if h (m + 1) < h (botF h m) then m + 1 else botF h m, h (if h (m + 1) < h (botF h m) then m + 1 else botF h m)) = _
    split <;> rfl

set_option maxRecDepth 100000 in
set_option maxHeartbeats 2000000 in
theorem tincident_is (px py qx qy nx ny : Int) (b off cap g c2 m : Nat) (Q : Cs) (ax ay bx b_y : Int) (w : World) (hm : 0 < m) (hm8 : m ≤ 8) (inx : I64 nx) (iny : I64 ny) (ho : OutAt w b off g m Q)
    (ea : Q (incF (nx, ny) Q m) = (ax, ay)) (eb : Q ((incF (nx, ny) Q m + 1) % m) = (bx, b_y)) :
    Calls Try.prog 76 #[sdV px py qx qy nx ny, outV b off cap g c2 m] w fun e w' => e = .returned (.tuple #[vecV ax ay, vecV bx b_y]) ∧ Made w.heap.size w w' := by
  have HO := hid ho
  obtain ⟨H, eH⟩ : ∃ h : Nat → Int, (fun j => dotV (nx, ny) (normF Q m j)) = h := ⟨_, rfl⟩
  have HG : Hid (∀ i, H i ≤ 9223372036854775807) := fun i => by rw [← eH]; exact (dot_rg _ _).2
  obtain ⟨J, eJ⟩ : ∃ J, incF (nx, ny) Q m = J := ⟨_, rfl⟩
  have HR : Hid (lowF H m = (J, H J)) := by
    unfold Hid lowF
    rw [if_neg (by omega), ← eJ]
    unfold incF
    rw [eH]
  have hJ : J < m := by
    rw [← eJ]; unfold incF
    have := botF_le (fun j => dotV (nx, ny) (normF Q m j)) (m - 1)
    omega
  have HH : Hid (∀ j, dotV (nx, ny) (normF Q m j) = H j) := fun j => by rw [← eH]
  rw [eJ] at ea eb
  obtain ⟨K, eK⟩ : ∃ K, (J + 1) % m = K := ⟨_, rfl⟩
  rw [eK] at eb
  have EK := hid eK
  have EA := hid ea
  have EB := hid eb
  obtain ⟨MN, eMN⟩ : ∃ x, normF Q m J = x := ⟨_, rfl⟩
  obtain ⟨jx, jy⟩ := MN
  have EMN := hid eMN
  have lb := ho.1.here hm
  have lg := ho.2.here hm
  clear ho eH eJ ea eb eK eMN
  go_enter Try.func76, Try.ntmps76
  go_upto_region 1 with fail
  obtain ⟨W0, eW⟩ : ∃ W, W = (((w.alloc (.cells #[.int .i64 px, .int .i64 py, .int .i64 qx, .int .i64 qy, .int .i64 nx, .int .i64 ny] 95)).alloc (.cells #[.slice (some ⟨b, off, none⟩) m cap, .slice (some ⟨g, 0, none⟩) m c2] 69)).alloc (.cells #[.int .i64 0, .int .i64 0] 26)).alloc (.cells #[.int .i64 0, .int .i64 0] 26) := ⟨_, rfl⟩
  have M0 : Hid (Made w.heap.size w W0) := by unfold Hid; rw [eW]; exact ((((Made.rfl_ _ _).cells (Nat.le_refl _) _ _).cells (by simp) _ _).cells (by simp; omega) _ _).cells (by simp; omega) _ _
  have s4 : W0.cell? ⟨w.heap.size, 4, none⟩ = some (.int .i64 nx) := by rw [eW]; go_simp
  have s5 : W0.cell? ⟨w.heap.size, 5, none⟩ = some (.int .i64 ny) := by rw [eW]; go_simp
  have u0 : W0.cell? ⟨w.heap.size + 1, 0, none⟩ = some (.slice (some ⟨b, off, none⟩) m cap) := by rw [eW]; go_simp
  have u1 : W0.cell? ⟨w.heap.size + 1, 1, none⟩ = some (.slice (some ⟨g, 0, none⟩) m c2) := by rw [eW]; go_simp
  have o0 : W0.cell? ⟨w.heap.size + 1 + 1, 0, none⟩ = some (.int .i64 0) := by rw [eW]; go_simp
  have o1 : W0.cell? ⟨w.heap.size + 1 + 1, 1, none⟩ = some (.int .i64 0) := by rw [eW]; go_simp
  have r0 : W0.cell? ⟨w.heap.size + 1 + 1 + 1, 0, none⟩ = some (.int .i64 0) := by rw [eW]; go_simp
  have r1 : W0.cell? ⟨w.heap.size + 1 + 1 + 1, 1, none⟩ = some (.int .i64 0) := by rw [eW]; go_simp
  have of_ : ∀ i, W0.frozen? ⟨w.heap.size + 1 + 1, i, none⟩ = false := fun i => by rw [eW]; go_simp
  have rf : ∀ i, W0.frozen? ⟨w.heap.size + 1 + 1 + 1, i, none⟩ = false := fun i => by rw [eW]; go_simp
  have HO0 : Hid (OutAt W0 b off g m Q) := HO.out.kept M0.out
  have lw0 : w.heap.size ≤ W0.heap.size := M0.out.1.size
  have lr0 : w.heap.size + 1 + 1 + 1 < W0.heap.size := World.block_lt_of_cell? _ _ r0
  rw [← eW]
  clear eW
  have S4 := hid s4; have S5 := hid s5; have U0 := hid u0; have U1 := hid u1; have O0 := hid o0; have O1 := hid o1; have R0 := hid r0; have R1 := hid r1; have OF := hid of_; have RF := hid rf
  clear s4 s5 u0 o0 o1 r0 r1 of_ rf
  go_wp2_with fail
  go_loopg [6, 7, 15] m (fun gg fv gv j wr => ∃ t : Nat, t + gg = m ∧ j = .int .i64 t ∧ fv = .int .i64 (lowF H t).1 ∧ gv = .int .i64 (lowF H t).2 ∧ Hid (Made W0.heap.size W0 wr))
  case atStart => exact ⟨0, by omega, rfl, rfl, rfl, Made.rfl_ _ _⟩
  case round =>
    obtain ⟨t, ht, rfl, rfl, rfl, HM⟩ := hrel
    by_cases hlt : t < m
    · obtain ⟨F, eF⟩ : ∃ F, (lowF H t).1 = F := ⟨_, rfl⟩
      obtain ⟨G, eG⟩ : ∃ G, (lowF H t).2 = G := ⟨_, rfl⟩
      obtain ⟨z, ez⟩ : ∃ z, H t = z := ⟨_, rfl⟩
      have HT : Hid (lowF H (t + 1) = if z < G then (t, z) else (F, G)) := by
        unfold Hid
        rw [lowF_next _ HG.out, eG, ez]
        split
        · rfl
        · exact Prod.ext eF eG
      rw [eF, eG]
      clear eF eG
      obtain ⟨N, eN⟩ : ∃ x, normF Q m t = x := ⟨_, rfl⟩
      obtain ⟨vx, vy⟩ := N
      have iN := i64_norm Q m t
      rw [eN] at iN
      obtain ⟨ivx, ivy⟩ := iN
      have EZ : Hid (addF (mulF nx vx) (mulF ny vy) = z) := by
        unfold Hid
        rw [← ez, ← HH.out t, eN]
        rfl
      obtain ⟨n0, n1⟩ := (HO0.out.2.stays HM.out (by omega)) t hlt
      rw [eN, Nat.zero_add] at n0 n1
      have s4 := HM.out.reads S4.out
      have s5 := HM.out.reads S5.out
      have lws : w.heap.size < wr.heap.size := World.block_lt_of_cell? _ _ s4
      clear ez eN
      go_wp2_with fail
      refine (vdot_is _ _ _ _ _ _ inx iny ivx ivy EZ.out).mono ?_
      rintro e w1 ⟨rfl, k1⟩
      have M1 : Hid (Made W0.heap.size W0 w1) := (HM.out.cells HM.out.1.size _ _).then_ (k1.low (HM.out.cells HM.out.1.size _ _).1.size)
      clear k1 s4 s5 n0 n1
      by_cases hg : z < G
      · have HT' : Hid (lowF H (t + 1) = (t, z)) := by have := HT.out; rw [if_pos hg] at this; exact this
        clear HT
        go_wp2_with fail
        go_roundg (m - t - 1)
        case rel => exact ⟨t + 1, by omega, by go_num, by rw [HT'.out], by rw [HT'.out], M1⟩
        case measure => omega
      · have HT' : Hid (lowF H (t + 1) = (F, G)) := by have := HT.out; rw [if_neg hg] at this; exact this
        clear HT
        go_wp2_with fail
        go_roundg (m - t - 1)
        case rel => exact ⟨t + 1, by omega, by go_num, by rw [HT'.out], by rw [HT'.out], M1⟩
        case measure => omega
    · have e : t = m := by omega
      subst e
      rw [HR.out]
      have HO1 : Hid (OutAt wr b off g t Q) := HO0.out.stays HM.out (by omega) (by omega)
      have u0 := HM.out.reads U0.out
      have u1 := HM.out.reads U1.out
      go_wp2_with fail
      refine (tside_is b off cap g c2 t J K Q (normF Q t) ax ay bx b_y jx jy _ hJ hm8 EK.out HO1.out.1 HO1.out.2 EA.out EB.out EMN.out).mono ?_
      rintro e w2 ⟨rfl, k2⟩
      have M2 : Hid (Made W0.heap.size W0 w2) := HM.out.then_ (k2.low HM.out.1.size)
      have o0 := M2.out.reads O0.out
      have o1 := M2.out.reads O1.out
      have r0 := M2.out.reads R0.out
      have r1 := M2.out.reads R1.out
      have of_ : ∀ i, w2.frozen? ⟨w.heap.size + 1 + 1, i, none⟩ = false := fun i => (M2.out.2 _).trans (OF.out i)
      have rf : ∀ i, w2.frozen? ⟨w.heap.size + 1 + 1 + 1, i, none⟩ = false := fun i => (M2.out.2 _).trans (RF.out i)
      have lr2 : w.heap.size + 1 + 1 + 1 < w2.heap.size := World.block_lt_of_cell? _ _ r0
      have lo2 : w.heap.size + 1 + 1 < w2.heap.size := by omega
      clear k2 u0 u1
      go_upto_region 10 with fail
      have o0 := cell_more (c := #[.int .i64 ax, .int .i64 ay, .int .i64 bx, .int .i64 b_y, .int .i64 jx, .int .i64 jy]) (t := 95) o0
      have o1 := cell_more (c := #[.int .i64 ax, .int .i64 ay, .int .i64 bx, .int .i64 b_y, .int .i64 jx, .int .i64 jy]) (t := 95) o1
      have r0 := cell_more (c := #[.int .i64 ax, .int .i64 ay, .int .i64 bx, .int .i64 b_y, .int .i64 jx, .int .i64 jy]) (t := 95) r0
      have r1 := cell_more (c := #[.int .i64 ax, .int .i64 ay, .int .i64 bx, .int .i64 b_y, .int .i64 jx, .int .i64 jy]) (t := 95) r1
      obtain ⟨W3, eW⟩ : ∃ W, W = w2.alloc (.cells #[.int .i64 ax, .int .i64 ay, .int .i64 bx, .int .i64 b_y, .int .i64 jx, .int .i64 jy] 95) := ⟨_, rfl⟩
      have hS : Has W3 w2.heap.size 95 #[.int .i64 ax, .int .i64 ay, .int .i64 bx, .int .i64 b_y, .int .i64 jx, .int .i64 jy] := by rw [eW]; exact has_new _ _ _
      have of_ : ∀ i, W3.frozen? ⟨w.heap.size + 1 + 1, i, none⟩ = false := fun i => by rw [eW]; exact (frozen?_alloc_cells _ _ _ _).trans (of_ i)
      have rf : ∀ i, W3.frozen? ⟨w.heap.size + 1 + 1 + 1, i, none⟩ = false := fun i => by rw [eW]; exact (frozen?_alloc_cells _ _ _ _).trans (rf i)
      have M3 : Hid (Made w.heap.size w W3) := by unfold Hid; rw [eW]; exact (M0.out.then_ (M2.out.low lw0)).cells (M0.out.then_ (M2.out.low lw0)).1.size _ _
      rw [← eW] at o0 o1 r0 r1 ⊢
      clear eW
      have h0 := hS.at_ 0
      have h1 := hS.at_ 1
      have h2 := hS.at_ 2
      have h3 := hS.at_ 3
      simp at h0 h1 h2 h3
      have ne1 : w2.heap.size ≠ w.heap.size + 1 + 1 := by omega
      have ne2 : w2.heap.size ≠ w.heap.size + 1 + 1 + 1 := by omega
      go_region
      all_goals (go_wp2_with fail)
      all_goals (refine bodyPost_ret (v := .tuple #[vecV ax ay, vecV bx b_y]) (by simp [results, Try.results76, go_sem, o0, o1, r0, r1]) rfl ⟨rfl, ?_⟩)
      all_goals (exact ((((M3.out.draws 1).put (by simp; try omega) _).put (by simp; try omega) _).put (by simp; try omega) _).put (by simp; try omega) _)
end Go.Proofs.Ytmfkcdinfahjlaa.Fx
