/- WoV -/
import Derived.Test.YtfncelifflebbaaGreatV12
import Derived.Test.YtfncelifflebbaaGreatV17

/- World variables; copies of shapes. -/


namespace Go.Proofs.YtfncelifflebbaaGreat.Fx
open Go.ChangeShapes Go.WideShapes Go.ChangeAt Go.RowKit
set_option linter.unusedVariables false

theorem set_size (w : World) (p : Addr) (u : Value) : (w.setCell p u).heap.size = w.heap.size := by simp [World.setCell]

set_option maxRecDepth 100000 in
set_option maxHeartbeats 2000000 in
theorem cloneV_nil (c : Nat) (w : World) (ao : Option Addr) (ho : (ao = none ∧ c = 0) ∨ ∃ a, ao = some a) : Calls Tryz.prog 82 #[.slice ao 0 c] w fun e v => e = .returned (.slice (ao.map fun _ => ⟨w.heap.size, 0, none⟩) 0 0) ∧ (∀ a, ao = some a → w.heap.size < v.heap.size) ∧ Made w.heap.size w v := by
  rcases ho with ⟨rfl, rfl⟩ | ⟨a, rfl⟩
  · have q := fun W : World => Lib.run_eql_slice_nil (P := Tryz.prog) W 25 24 none 0 0 0 0 Tryz.underlying25
    go_enter Tryz.func82, Tryz.ntmps82
    go_wp2_with fail
    go_ret
    exact ⟨rfl, fun a e => (by cases e), Made.rfl_ _ _⟩
  · have q := fun W : World => Lib.run_eql_slice_nil (P := Tryz.prog) W 25 24 (some a) 0 c 0 0 Tryz.underlying25
    go_enter Tryz.func82, Tryz.ntmps82
    go_wp2_with fail
    go_ret
    exact ⟨rfl, fun _ _ => (by simp), (Made.rfl_ _ _).cells (Nat.le_refl _) _ _⟩
set_option maxRecDepth 100000 in
set_option maxHeartbeats 2000000 in
theorem copyV_nil (K R : Int) (c : Nat) (w : World) (ao : Option Addr) (ho : (ao = none ∧ c = 0) ∨ ∃ a, ao = some a) : Calls Tryz.prog 43 #[shapeV K R (.slice ao 0 c)] w fun e v => e = .returned (shapeV K R (.slice (ao.map fun _ => ⟨w.heap.size + 2, 0, none⟩) 0 0)) ∧ (w.heap.size + 2 ≤ v.heap.size ∧ ∀ a, ao = some a → w.heap.size + 2 < v.heap.size) ∧ Made w.heap.size w v := by
  have HC := hid (fun w => cloneV_nil c w ao ho)
  clear ho
  obtain ⟨s, es⟩ : ∃ s, (ao.map fun _ => (⟨w.heap.size + 2, 0, none⟩ : Addr)) = s := ⟨_, rfl⟩
  rw [es]
  obtain ⟨W, eW⟩ : ∃ W, W = (w.alloc (.cells #[.int .i64 K, .int .i64 R, .slice ao 0 c] 27)).alloc (.cells #[.int .i64 0, .int .i64 0, .slice none 0 0] 27) := ⟨_, rfl⟩
  have hA : Has W w.heap.size 27 #[.int .i64 K, .int .i64 R, .slice ao 0 c] := by rw [eW]; exact (has_new _ _ _).more _
  have hB : Has W (w.heap.size + 1) 27 #[.int .i64 0, .int .i64 0, .slice none 0 0] := by rw [eW]; exact has_nxt' _ _ _ _
  have kW : Made w.heap.size w W := by rw [eW]; exact ((Made.rfl_ _ _).cells (Nat.le_refl _) _ _).cells (by simp) _ _
  have hsz : W.heap.size = w.heap.size + 2 := by rw [eW]; simp
  have HC := HC.out W
  rw [hsz, es] at HC
  have HCC := hid HC
  obtain ⟨g0, eg0⟩ : ∃ g, w.heap.size = g := ⟨_, rfl⟩
  obtain ⟨g1, eg1⟩ : ∃ g, g0 + 1 = g := ⟨_, rfl⟩
  have HA := hid hA; have HB := hid hB; have KW := hid kW
  rw [eg0] at HA
  rw [eg0, eg1] at HB
  have a0 := HA.out.at_ 0
  have a1 := HA.out.at_ 1
  have a2 := HA.out.at_ 2
  simp at a0 a1 a2
  have l0 : g0 < W.heap.size := HA.out.here
  have HSZ := hid hsz
  clear hA hB kW hsz HC es
  go_enter Tryz.func43, Tryz.ntmps43
  go_upto_region 1 with fail
  rw [← eW]
  clear eW
  try rw [eg0]
  try rw [eg1]
  go_wp2_with fail
  refine HCC.out.mono ?_
  rintro e w1 ⟨rfl, hs1, k1⟩
  have k1 : Made W.heap.size W w1 := by rw [HSZ.out]; exact k1
  have hA := HA.out.stays k1 HA.out.here
  have hB := HB.out.stays k1 HB.out.here
  have K1 := hid (KW.out.then_ (k1.low KW.out.1.size))
  have HSZ1 : Hid (w.heap.size + 2 ≤ w1.heap.size ∧ ∀ a, ao = some a → w.heap.size + 2 < w1.heap.size) := ⟨by rw [← HSZ.out]; exact k1.1.size, hs1⟩
  clear hs1
  have HA1 := hid hA; have HB1 := hid hB
  clear a0 a1 a2 l0 hA hB k1 HA HB
  have a0 := HA1.out.at_ 0
  have a1 := HA1.out.at_ 1
  have a2 := HA1.out.at_ 2
  simp at a0 a1 a2
  have l0 : g0 < w1.heap.size := HA1.out.here
  have f2 : w1.frozen? ⟨g0, 2, none⟩ = false := HA1.out.free 2
  have b0 := HB1.out.at_ 0
  have b1 := HB1.out.at_ 1
  have b2 := HB1.out.at_ 2
  simp at b0 b1 b2
  have l1 : g1 < w1.heap.size := HB1.out.here
  have fb : ∀ i, w1.frozen? ⟨g1, i, none⟩ = false := HB1.out.free
  have hne : ¬ g0 = g1 := by omega
  have hne' : ¬ g1 = g0 := by omega
  go_upto_region 2 with fail
  obtain ⟨V, eV⟩ : ∃ V, V = w1.setCell ⟨g0, 2, none⟩ (.slice s 0 0) := ⟨_, rfl⟩
  have HAV : Hid (Has V g0 27 #[.int .i64 K, .int .i64 R, .slice s 0 0]) := by unfold Hid; rw [eV]; exact HA1.out.put 2 _
  have HBV : Hid (Has V g1 27 #[.int .i64 0, .int .i64 0, .slice none 0 0]) := by unfold Hid; rw [eV]; exact HB1.out.other _ hne' _
  have KV : Hid (Made w.heap.size w V) := by unfold Hid; rw [eV]; exact K1.out.put (by rw [eg0]; exact Nat.le_refl _) _
  have HSV : Hid (w.heap.size + 2 ≤ V.heap.size ∧ ∀ a, ao = some a → w.heap.size + 2 < V.heap.size) := by unfold Hid; rw [eV, set_size]; exact HSZ1.out
  rw [← eV]
  clear eV a0 a1 a2 l0 f2 b0 b1 b2 l1 fb
  have a0 := HAV.out.at_ 0
  have a1 := HAV.out.at_ 1
  have a2 := HAV.out.at_ 2
  simp at a0 a1 a2
  have l0 : g0 < V.heap.size := HAV.out.here
  have b0 := HBV.out.at_ 0
  have b1 := HBV.out.at_ 1
  have b2 := HBV.out.at_ 2
  simp at b0 b1 b2
  have l1 : g1 < V.heap.size := HBV.out.here
  have fb : ∀ i, V.frozen? ⟨g1, i, none⟩ = false := HBV.out.free
  go_wp2_with fail
  obtain ⟨U, eU⟩ : ∃ U, U = ((V.setCell ⟨g1, 0, none⟩ (.int .i64 K)).setCell ⟨g1, 1, none⟩ (.int .i64 R)).setCell ⟨g1, 2, none⟩ (.slice s 0 0) := ⟨_, rfl⟩
  have hU : Has U g1 27 #[.int .i64 K, .int .i64 R, .slice s 0 0] := by rw [eU]; exact ((HBV.out.put 0 _).put 1 _).put 2 _
  have hw1 : w.heap.size ≤ g1 := by omega
  have kU : Made w.heap.size w U := by rw [eU]; exact ((KV.out.put hw1 _).put hw1 _).put hw1 _
  have hsU : w.heap.size + 2 ≤ U.heap.size ∧ ∀ a, ao = some a → w.heap.size + 2 < U.heap.size := by rw [eU, set_size, set_size, set_size]; exact HSV.out
  rw [← eU]
  have q0 := hU.at_ 0
  have q1 := hU.at_ 1
  have q2 := hU.at_ 2
  simp at q0 q1 q2
  exact bodyPost_ret (v := shapeV K R (.slice s 0 0)) (by simp [results, Tryz.results43, go_sem, q0, q1, q2]) rfl ⟨rfl, hsU, kU⟩
def CopyW (ao : Nat → Option Addr) (ac : Nat → Nat) (n : Nat) : Prop := ((∀ g, ao g = none) ∧ n = 0 ∧ ∀ e, ac e = 0) ∨ ((∀ g, ao g = some ⟨g, 0, none⟩) ∧ ∀ e, n ≤ ac e ∨ ac e = e)
def CornersAt (w : World) (ao : Option Addr) (g n : Nat) (f : Cs) : Prop := Sl w ao n f ∧ (0 < n → Row w g 24 n f)
theorem CornersAt.kept {w v : World} {ao : Option Addr} {g n : Nat} {f : Cs} (h : CornersAt w ao g n f) (k : Made w.heap.size w v) : CornersAt v ao g n f :=
  ⟨fun hn => by obtain ⟨b, off, e, hp⟩ := h.1 hn; exact ⟨b, off, e, hp.kept k⟩, fun hn => (h.2 hn).kept k⟩
theorem copyV_c (K R : Int) (ao : Option Addr) (n cap : Nat) (f : Cs) (h8 : n ≤ 8) (ho : (ao = none ∧ n = 0 ∧ cap = 0) ∨ ∃ a, ao = some a) :
    ∃ ao' ac, CopyW ao' ac n ∧ ∀ w, Sl w ao n f → Calls Tryz.prog 43 #[shapeV K R (.slice ao n cap)] w fun e v => ∃ g e', e = .returned (shapeV K R (.slice (ao' g) n (ac e'))) ∧ w.heap.size ≤ g ∧ g < v.heap.size ∧ CornersAt v (ao' g) g n f ∧ Made w.heap.size w v := by
  rcases Nat.eq_zero_or_pos n with h0 | h0
  · subst h0
    rcases ho with ⟨rfl, _, rfl⟩ | ⟨a, rfl⟩
    · refine ⟨fun _ => none, fun _ => 0, .inl ⟨fun _ => rfl, rfl, fun _ => rfl⟩, fun w hs => (copyV_nil K R 0 w none (.inl ⟨rfl, rfl⟩)).mono ?_⟩
      rintro e v ⟨rfl, hsz, k⟩
      exact ⟨w.heap.size, 0, rfl, Nat.le_refl _, by have := hsz.1; omega, ⟨fun h => absurd h (by omega), fun h => absurd h (by omega)⟩, k⟩
    · refine ⟨fun g => some ⟨g, 0, none⟩, fun _ => 0, .inr ⟨fun _ => rfl, fun _ => .inl (Nat.le_refl _)⟩, fun w hs => (copyV_nil K R cap w (some a) (.inr ⟨a, rfl⟩)).mono ?_⟩
      rintro e v ⟨rfl, hsz, k⟩
      exact ⟨w.heap.size + 2, 0, rfl, by omega, hsz.2 a rfl, ⟨fun h => absurd h (by omega), fun h => absurd h (by omega)⟩, k⟩
  · refine ⟨fun g => some ⟨g, 0, none⟩, fun e => e, .inr ⟨fun _ => rfl, fun _ => .inr rfl⟩, fun w hs => ?_⟩
    obtain ⟨b, off, rfl, hp⟩ := hs h0
    refine (copy_is K R b off n cap f w h0 h8 hp).mono ?_
    rintro e v ⟨g, c, rfl, hg, hr, k⟩
    exact ⟨g, c, rfl, hg, hr.here, ⟨fun _ => ⟨g, 0, rfl, hr.pts⟩, fun _ => hr⟩, k⟩
end Go.Proofs.YtfncelifflebbaaGreat.Fx

