/- Contracts of package touch: the gap of a side, of an outline; Gap, outlined, place. -/
import Derived.Test.YtmfkcdinfahjlaaTcA
import Derived.Test.YtmfkcdinfahjlaaShapeE
namespace Go.Proofs.Ytmfkcdinfahjlaa.Fx
open Go.ChangeShapes Go.WideShapes Go.ChangeAt Go.RowKit
set_option linter.unusedVariables false

/-- the least of the first m, and of the greatest number of all -/
def leastM (h : Nat → Int) : Nat → Int
  | 0 => 9223372036854775807
  | m + 1 => min (leastM h m) (h m)
theorem leastM_is (h : Nat → Int) (hr : ∀ i, h i ≤ 9223372036854775807) : ∀ m, leastM h (m + 1) = leastF h m
  | 0 => by show min 9223372036854775807 (h 0) = h 0; have := hr 0; omega
  | m + 1 => by
    have ih := leastM_is h hr m
    show min (leastM h (m + 1)) (h (m + 1)) = min (leastF h m) (h (m + 1))
    rw [ih]
theorem dot_rg (a b : Int × Int) : Rg (dotV a b) := rg_add _ _
theorem gap_rg (P : Cs) (n : Nat) (Q : Cs) (m i : Nat) : Rg (gapF P n Q m i) := by
  unfold gapF
  obtain ⟨j, _, e⟩ := leastF_at (fun j => dotV (normF P n i) (subV (Q j) (P i))) (m - 1)
  rw [e]
  exact dot_rg _ _

set_option maxRecDepth 100000 in
set_option maxHeartbeats 2000000 in
theorem tsgap_is (px py qx qy nx ny : Int) (b off m cap : Nat) (Q : Cs) (r : Int) (w : World) (hm : 0 < m) (h8 : m ≤ 8) (ipx : I64 px) (ipy : I64 py) (inx : I64 nx) (iny : I64 ny) (hq : Pts w b off m Q) (iQ : Cin Q m)
    (er : leastF (fun j => dotV (nx, ny) (subV (Q j) (px, py))) (m - 1) = r) :
    Calls Try.prog 73 #[sdV px py qx qy nx ny, .slice (some ⟨b, off, none⟩) m cap] w fun e w' => e = .returned (.int .i64 r) ∧ Made w.heap.size w w' := by
  obtain ⟨H, eH⟩ : ∃ h : Nat → Int, (fun j => dotV (nx, ny) (subV (Q j) (px, py))) = h := ⟨_, rfl⟩
  have HH : Hid (∀ j, dotV (nx, ny) (subV (Q j) (px, py)) = H j) := fun j => by rw [← eH]
  have HR : Hid (leastM H m = r) := by
    unfold Hid
    rw [← er, eH, ← leastM_is H (fun i => by have := dot_rg (nx, ny) (subV (Q i) (px, py)); rw [HH.out i] at this; unfold Rg at this; omega)]
    congr 1; omega
  have IQ := hid iQ
  have HQ := hid hq
  have lb := hq.here hm
  clear hq iQ er eH
  go_enter Try.func73, Try.ntmps73
  go_upto_region 1 with fail
  obtain ⟨W0, eW⟩ : ∃ W, W = w.alloc (.cells #[.int .i64 px, .int .i64 py, .int .i64 qx, .int .i64 qy, .int .i64 nx, .int .i64 ny] 95) := ⟨_, rfl⟩
  have M0 : Hid (Made w.heap.size w W0) := by unfold Hid; rw [eW]; exact (Made.rfl_ _ _).cells (Nat.le_refl _) _ _
  have s0 : W0.cell? ⟨w.heap.size, 0, none⟩ = some (.int .i64 px) := by rw [eW]; go_simp
  have s1 : W0.cell? ⟨w.heap.size, 1, none⟩ = some (.int .i64 py) := by rw [eW]; go_simp
  have s2 : W0.cell? ⟨w.heap.size, 2, none⟩ = some (.int .i64 qx) := by rw [eW]; go_simp
  have s3 : W0.cell? ⟨w.heap.size, 3, none⟩ = some (.int .i64 qy) := by rw [eW]; go_simp
  have s4 : W0.cell? ⟨w.heap.size, 4, none⟩ = some (.int .i64 nx) := by rw [eW]; go_simp
  have s5 : W0.cell? ⟨w.heap.size, 5, none⟩ = some (.int .i64 ny) := by rw [eW]; go_simp
  have HQ0 : Hid (Pts W0 b off m Q) := HQ.out.kept M0.out
  have lb0 : b < W0.heap.size := HQ0.out.here hm
  have lw0 : w.heap.size ≤ W0.heap.size := M0.out.1.size
  rw [← eW]
  clear eW
  have S0 := hid s0; have S1 := hid s1; have S2 := hid s2; have S3 := hid s3; have S4 := hid s4; have S5 := hid s5
  clear s0 s1 s2 s3 s4 s5
  go_wp2_with fail
  go_loopg [5, 10] m (fun gg gv j wr => ∃ t : Nat, t + gg = m ∧ j = .int .i64 t ∧ gv = .int .i64 (leastM H t) ∧ Hid (Made W0.heap.size W0 wr))
  case atStart => exact ⟨0, by omega, rfl, rfl, Made.rfl_ _ _⟩
  case round =>
    obtain ⟨t, ht, rfl, rfl, HM⟩ := hrel
    by_cases hlt : t < m
    · obtain ⟨v, ev⟩ : ∃ v, Q t = v := ⟨_, rfl⟩
      obtain ⟨x, y⟩ := v
      obtain ⟨q0, q1⟩ := (HQ0.out.stays HM.out lb0) t hlt
      rw [ev] at q0 q1
      obtain ⟨ix, iy⟩ := IQ.out t hlt
      rw [ev] at ix iy
      have s0 := HM.out.reads S0.out
      have s1 := HM.out.reads S1.out
      have s2 := HM.out.reads S2.out
      have s3 := HM.out.reads S3.out
      have s4 := HM.out.reads S4.out
      have s5 := HM.out.reads S5.out
      have lws : w.heap.size < wr.heap.size := World.block_lt_of_cell? _ _ s0
      obtain ⟨z, ez⟩ : ∃ z, H t = z := ⟨_, rfl⟩
      obtain ⟨l, el⟩ : ∃ l, leastM H t = l := ⟨_, rfl⟩
      obtain ⟨k, ek⟩ : ∃ k, min l z = k := ⟨_, rfl⟩
      have EK : Hid (leastM H (t + 1) = k) := by unfold Hid leastM; rw [el, ez, ek]
      have E : Hid (dotV (nx, ny) (subV (x, y) (px, py)) = z) := by unfold Hid; rw [← ev, HH.out t, ez]
      rw [el]
      clear ez el ev
      go_wp2_with fail
      refine (tbeyond_is _ _ _ _ _ _ _ _ _ _ ipx ipy inx iny ix iy E.out).mono ?_
      rintro e w1 ⟨rfl, k1⟩
      have M1 : Hid (Made W0.heap.size W0 w1) := (HM.out.cells HM.out.1.size _ _).then_ (k1.low (HM.out.cells HM.out.1.size _ _).1.size)
      clear k1 s0 s1 s2 s3 s4 s5 q0 q1
      go_wp2_with fail
      go_roundg (m - t - 1)
      case rel => exact ⟨t + 1, by omega, by go_num, by rw [EK.out], M1⟩
      case measure => omega
    · have e : t = m := by omega
      subst e
      rw [HR.out]
      go_wp2_with fail
      go_ret
      exact ⟨rfl, M0.out.then_ (HM.out.low lw0)⟩

/-- where the search for the greatest of the first m stands -/
def topF (h : Nat → Int) (m : Nat) : Nat × Int := if m = 0 then (0, -9223372036854775807) else (firstF h (m - 1), h (firstF h (m - 1)))
theorem topF_next (h : Nat → Int) (hr : ∀ i, -9223372036854775807 ≤ h i) (m : Nat) : topF h (m + 1) = if (topF h m).2 < h m then (m, h m) else topF h m := by
  have h0 := hr 0
  unfold topF
  rcases m with _ | m
  · simp only [Nat.zero_add, Nat.add_one_ne_zero, if_false, if_true, Nat.sub_self]
    show (0, h 0) = if (-9223372036854775807 : Int) < h 0 then (0, h 0) else (0, -9223372036854775807)
    split
    · rfl
    · rename_i g; rw [show h 0 = -9223372036854775807 by omega]
  · simp only [Nat.add_one_ne_zero, if_false, Nat.add_sub_cancel]
    show (if h (firstF h m) < h (m + 1) then m + 1 else firstF h m, h (if h (firstF h m) < h (m + 1) then m + 1 else firstF h m)) = _
    split <;> rfl

/-- an outline in memory -/
def OutAt (w : World) (b off g n : Nat) (P : Cs) : Prop := Pts w b off n P ∧ Pts w g 0 n (normF P n)
theorem OutAt.kept {w v : World} {b off g n : Nat} {P : Cs} (h : OutAt w b off g n P) (k : Made w.heap.size w v) : OutAt v b off g n P := ⟨h.1.kept k, h.2.kept k⟩
theorem OutAt.stays {w v : World} {b off g n B : Nat} {P : Cs} (h : OutAt w b off g n P) (k : Made B w v) (hb : b < B) (hg : g < B) : OutAt v b off g n P := ⟨h.1.stays k hb, h.2.stays k hg⟩

set_option maxRecDepth 100000 in
set_option maxHeartbeats 2000000 in
theorem togap_is (b off cap g c2 n b2 off2 m cap2 : Nat) (P Q : Cs) (i : Nat) (r : Int) (w : World) (hn : 0 < n) (h8 : n ≤ 8) (hm : 0 < m) (hm8 : m ≤ 8) (ho : OutAt w b off g n P) (hq : Pts w b2 off2 m Q) (iP : Cin P n) (iQ : Cin Q m)
    (ei : sideF P n Q m = i) (er : gapF P n Q m i = r) :
    Calls Try.prog 49 #[outV b off cap g c2 n, .slice (some ⟨b2, off2, none⟩) m cap2] w fun e w' => e = .returned (.tuple #[.int .i64 i, .int .i64 r]) ∧ Made w.heap.size w w' := by
  have HO := hid ho
  have HQ := hid hq
  have IP := hid iP
  have IQ := hid iQ
  have HR : Hid (topF (gapF P n Q m) n = (i, r)) := by
    unfold Hid topF
    rw [if_neg (by omega), ← er, ← ei]
    rfl
  have HG : Hid (∀ i, -9223372036854775807 ≤ gapF P n Q m i) := fun i => (gap_rg P n Q m i).1
  have lb := ho.1.here hn
  have lg := ho.2.here hn
  have lb2 := hq.here hm
  have n0 : ((n : Int) == 0) = false := by simp; omega
  have m0 : ((m : Int) == 0) = false := by simp; omega
  clear ho hq iP iQ ei er
  go_enter Try.func49, Try.ntmps49
  go_upto_region 3 with fail
  obtain ⟨W0, eW⟩ : ∃ W, W = w.alloc (.cells #[.slice (some ⟨b, off, none⟩) n cap, .slice (some ⟨g, 0, none⟩) n c2] 69) := ⟨_, rfl⟩
  have M0 : Hid (Made w.heap.size w W0) := by unfold Hid; rw [eW]; exact (Made.rfl_ _ _).cells (Nat.le_refl _) _ _
  have s0 : W0.cell? ⟨w.heap.size, 0, none⟩ = some (.slice (some ⟨b, off, none⟩) n cap) := by rw [eW]; go_simp
  have s1 : W0.cell? ⟨w.heap.size, 1, none⟩ = some (.slice (some ⟨g, 0, none⟩) n c2) := by rw [eW]; go_simp
  have HO0 : Hid (OutAt W0 b off g n P) := HO.out.kept M0.out
  have HQ0 : Hid (Pts W0 b2 off2 m Q) := HQ.out.kept M0.out
  have lw0 : w.heap.size ≤ W0.heap.size := M0.out.1.size
  rw [← eW]
  clear eW
  have S0 := hid s0
  have S1 := hid s1
  go_wp2_with fail
  go_loopg [6, 7, 22] n (fun gg fv gv j wr => ∃ t : Nat, t + gg = n ∧ j = .int .i64 t ∧ fv = .int .i64 (topF (gapF P n Q m) t).1 ∧ gv = .int .i64 (topF (gapF P n Q m) t).2 ∧ Hid (Made W0.heap.size W0 wr))
  case atStart => exact ⟨0, by omega, rfl, rfl, rfl, Made.rfl_ _ _⟩
  case round =>
    obtain ⟨t, ht, rfl, rfl, rfl, HM⟩ := hrel
    by_cases hlt : t < n
    · obtain ⟨F, eF⟩ : ∃ F, (topF (gapF P n Q m) t).1 = F := ⟨_, rfl⟩
      obtain ⟨G, eG⟩ : ∃ G, (topF (gapF P n Q m) t).2 = G := ⟨_, rfl⟩
      obtain ⟨z, ez⟩ : ∃ z, gapF P n Q m t = z := ⟨_, rfl⟩
      have HT : Hid (topF (gapF P n Q m) (t + 1) = if G < z then (t, z) else (F, G)) := by
        unfold Hid
        rw [topF_next _ HG.out, eG, ez]
        split
        · rfl
        · exact Prod.ext eF eG
      rw [eF, eG]
      clear eF eG
      obtain ⟨N, eN⟩ : ∃ x, normF P n t = x := ⟨_, rfl⟩
      obtain ⟨nx, ny⟩ := N
      obtain ⟨V, eV⟩ : ∃ x, P t = x := ⟨_, rfl⟩
      obtain ⟨px, py⟩ := V
      obtain ⟨k, ek⟩ : ∃ k, (t + 1) % n = k := ⟨_, rfl⟩
      obtain ⟨V2, eV2⟩ : ∃ x, P k = x := ⟨_, rfl⟩
      obtain ⟨qx, qy⟩ := V2
      have iN := i64_norm P n t
      rw [eN] at iN
      obtain ⟨inx, iny⟩ := iN
      obtain ⟨ipx, ipy⟩ := IP.out t hlt
      rw [eV] at ipx ipy
      have EZ : Hid (leastF (fun j => dotV (nx, ny) (subV (Q j) (px, py))) (m - 1) = z) := by unfold Hid; rw [← ez]; unfold gapF; rw [eN, eV]
      have HO1 : Hid (OutAt wr b off g n P) := HO0.out.stays HM.out (by omega) (by omega)
      have HQ1 : Hid (Pts wr b2 off2 m Q) := HQ0.out.stays HM.out (by omega)
      have HS := hid (tside_is b off cap g c2 n t k P (normF P n) px py qx qy nx ny wr hlt h8 ek HO1.out.1 HO1.out.2 eV eV2 eN)
      have s0 := HM.out.reads S0.out
      have s1 := HM.out.reads S1.out
      clear ez eN eV ek eV2
      go_wp2_with fail
      refine HS.out.mono ?_
      rintro e w1 ⟨rfl, k1⟩
      have M1 : Hid (Made W0.heap.size W0 w1) := HM.out.then_ (k1.low HM.out.1.size)
      have HQ2 : Hid (Pts w1 b2 off2 m Q) := HQ1.out.kept k1
      clear k1 s0 s1 HS
      go_wp2_with fail
      refine (tsgap_is _ _ _ _ _ _ _ _ _ _ _ _ _ hm hm8 ipx ipy inx iny HQ2.out IQ.out EZ.out).mono ?_
      rintro e w2 ⟨rfl, k2⟩
      have M2 : Hid (Made W0.heap.size W0 w2) := M1.out.then_ (k2.low M1.out.1.size)
      clear k2
      by_cases hg : G < z
      · have HT' : Hid (topF (gapF P n Q m) (t + 1) = (t, z)) := by have := HT.out; rw [if_pos hg] at this; exact this
        clear HT
        go_wp2_with fail
        go_roundg (n - t - 1)
        case rel => exact ⟨t + 1, by omega, by go_num, by rw [HT'.out], by rw [HT'.out], M2⟩
        case measure => omega
      · have HT' : Hid (topF (gapF P n Q m) (t + 1) = (F, G)) := by have := HT.out; rw [if_neg hg] at this; exact this
        clear HT
        go_wp2_with fail
        go_roundg (n - t - 1)
        case rel => exact ⟨t + 1, by omega, by go_num, by rw [HT'.out], by rw [HT'.out], M2⟩
        case measure => omega
    · have e : t = n := by omega
      subst e
      rw [HR.out]
      go_wp2_with fail
      refine bodyPost_ret (v := .tuple #[.int .i64 i, .int .i64 r]) (by simp [results, Try.results49, go_sem]) rfl ⟨rfl, ?_⟩
      exact M0.out.then_ (HM.out.low lw0)

set_option maxRecDepth 100000 in
set_option maxHeartbeats 1000000 in
theorem toutlined_is (b off n cap : Nat) (P : Cs) (w : World) (hn : 0 < n) (h8 : n ≤ 8) (hp : Pts w b off n P) (iP : Cin P n) :
    Calls Try.prog 54 #[.slice (some ⟨b, off, none⟩) n cap] w fun e w' => ∃ g, e = .returned (outV b off cap g n n) ∧ w.heap.size ≤ g ∧ OutAt w' b off g n P ∧ Made w.heap.size w w' := by
  have HP := hid hp
  have HN := hid (fun w hp => normals_is b off n cap P w hn h8 hp iP)
  have lb := hp.here hn
  clear hp iP
  go_enter Try.func54, Try.ntmps54
  go_wp2_with fail
  refine (HN.out _ (HP.out.kept ((Made.rfl_ _ _).cells (Nat.le_refl _) _ _))).mono ?_
  rintro e w1 ⟨g, rfl, hg, hR, k1⟩
  have r0 := k1.reads (p := ⟨w.heap.size, 0, none⟩) (x := .slice none 0 0) (by go_simp)
  have r1 := k1.reads (p := ⟨w.heap.size, 1, none⟩) (x := .slice none 0 0) (by go_simp)
  have rf : ∀ i, w1.frozen? ⟨w.heap.size, i, none⟩ = false := fun i => (k1.2 _).trans (by go_simp)
  have M1 := hid (made_box k1)
  have HR := hid hR
  have hg' : w.heap.size < g := by simp at hg; omega
  have HP1 : Hid (Pts w1 b off n P) := HP.out.kept M1.out
  clear k1 hR hg
  go_wp2_with fail
  refine bodyPost_ret (v := outV b off cap g n n) (by simp [results, Try.results54, go_sem, r0, r1]) rfl ⟨g, rfl, by omega, ⟨?_, ?_⟩, ?_⟩
  · exact HP1.out.stays (B := w.heap.size) (((Made.rfl_ _ _).put (by simp) _).put (by simp) _) lb
  · exact ((HR.out.other _ (by simp; omega) _).other _ (by simp; omega) _).pts
  · exact (M1.out.put (by simp) _).put (by simp) _

set_option maxRecDepth 100000 in
set_option maxHeartbeats 1000000 in
theorem tplace_is (X Y A : Int) (b off n cap : Nat) (f : Cs) (w : World) (iX : I64 X) (iY : I64 Y) (iA : I64 A) (h3 : 3 ≤ n) (h8 : n ≤ 8) (hp : Pts w b off n f) (hi : Cin f n) (P : Cs) (hP : placeF f (cs (stepF A)) (sn (stepF A)) X Y = P) :
    Calls Try.prog 25 #[bodyV 0 X Y 0 0 A 0 0 2 0 (.slice (some ⟨b, off, none⟩) n cap)] w fun e w' => ∃ p g, e = .returned (outV p 0 n g n n) ∧ w.heap.size ≤ p ∧ OutAt w' p 0 g n P ∧ Made w.heap.size w w' := by
  have HP := hid hp
  have HC := hid (fun w hp => corners_is 0 b off n cap f X Y A w (by omega) h8 hp hi iX iY iA)
  rw [hP] at HC
  have IC : Hid (Cin P n) := fun i _ => by rw [← hP]; exact ⟨i64_add _ _, i64_add _ _⟩
  have HO := hid (fun b w hp => toutlined_is b 0 n n P w (by omega) h8 hp IC.out)
  clear hp hi hP
  go_enter Try.func25, Try.ntmps25
  go_wp2_with fail
  refine (HC.out _ (HP.out.kept (((Made.rfl_ _ _).cells (Nat.le_refl _) _ _).cells (by simp) _ _))).mono ?_
  rintro e w1 ⟨p, rfl, hp', hR, k1⟩
  have r0 := k1.reads (p := ⟨w.heap.size + 1, 0, none⟩) (x := .slice none 0 0) (by go_simp)
  have r1 := k1.reads (p := ⟨w.heap.size + 1, 1, none⟩) (x := .slice none 0 0) (by go_simp)
  have rf : ∀ i, w1.frozen? ⟨w.heap.size + 1, i, none⟩ = false := fun i => (k1.2 _).trans (by go_simp)
  have M1 := hid (made_box (made_box k1))
  have HR := hid hR
  have hp1 : w.heap.size + 1 < p := by simp at hp'; omega
  have lp := hR.here
  clear k1 hR hp'
  go_wp2_with fail
  refine (HO.out _ _ HR.out.pts).mono ?_
  rintro e w2 ⟨g, rfl, hg, ho, k2⟩
  have r0 := k2.reads r0
  have r1 := k2.reads r1
  have rf : ∀ i, w2.frozen? ⟨w.heap.size + 1, i, none⟩ = false := fun i => (k2.2 _).trans (rf i)
  have M2 : Hid (Made w.heap.size w w2) := M1.out.then_ (k2.low M1.out.1.size)
  have HO2 := hid ho
  have lg := ho.2.here (by omega)
  have lg2 : w.heap.size + 1 < g := by omega
  clear k2 ho hg
  go_wp2_with fail
  refine bodyPost_ret (v := outV p 0 n g n n) (by simp [results, Try.results25, go_sem, r0, r1]) rfl ⟨p, g, rfl, by omega, ⟨?_, ?_⟩, ?_⟩
  · intro i hi
    have := HO2.out.1 i hi
    exact ⟨cell_else (by simp; omega) (cell_else (by simp; omega) this.1), cell_else (by simp; omega) (cell_else (by simp; omega) this.2)⟩
  · intro i hi
    have := HO2.out.2 i hi
    exact ⟨cell_else (by simp; omega) (cell_else (by simp; omega) this.1), cell_else (by simp; omega) (cell_else (by simp; omega) this.2)⟩
  · exact (M2.out.put (by simp) _).put (by simp) _
end Go.Proofs.Ytmfkcdinfahjlaa.Fx
