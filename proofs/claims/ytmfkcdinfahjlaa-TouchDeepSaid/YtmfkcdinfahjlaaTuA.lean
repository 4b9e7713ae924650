/- The bodies of places, of whatever kind, in one contract; regions that make two of them. -/
import Derived.Test.YtmfkcdinfahjlaaMak
import Derived.Test.YtmfkcdinfahjlaaTouchX
import Derived.Test.YtmfkcdinfahjlaaPlace
namespace Go.Proofs.Ytmfkcdinfahjlaa.Fx
open Go.ChangeShapes Go.WideShapes Go.ChangeAt Go.RowKit
set_option linter.unusedVariables false

set_option maxRecDepth 100000 in
set_option maxHeartbeats 2000000 in
theorem place_circle' {K N S T R : Int} (h : SeedC K N S T R) (x y an X Y A : Int) (w : World) (hx : I64 x) (hy : I64 y) (eX : thou x = X) (eY : thou y = Y) (eA : an % 4294967296 = A) :
    Calls Try.prog 10 #[placeV K N S T x y an] w fun e w' => e = .returned (bodyV 0 X Y 0 0 A 0 0 1 R (.slice none 0 0)) ∧ w.heap.size < w'.heap.size ∧ Made w.heap.size w w' := by
  obtain ⟨r0, r1, hs⟩ := h
  have iM : I64 4294967296000 := by unfold I64; omega
  have EX := hid (show bringF x (negF 4294967296000) 4294967296000 = X from eX)
  have EY := hid (show bringF y (negF 4294967296000) 4294967296000 = Y from eY)
  have HS := hid hs
  have aA := and32 an
  rw [eA] at aA
  clear eX eY eA hs
  go_enter Try.func10, Try.ntmps10
  go_wp2_with fail
  refine reg_made_tail 10 (by kernel_rfl) (by kernel_rfl) ?_
  intro Ty hT fw hf
  have c0 := Class.reads hf (p := ⟨w.heap.size, 0, none⟩) (u := .int .i64 K) (by go_simp)
  have c1 := Class.reads hf (p := ⟨w.heap.size, 1, none⟩) (u := .int .i64 N) (by go_simp)
  have c2 := Class.reads hf (p := ⟨w.heap.size, 2, none⟩) (u := .int .i64 S) (by go_simp)
  have c3 := Class.reads hf (p := ⟨w.heap.size, 3, none⟩) (u := .int .i64 T) (by go_simp)
  have c4 := Class.reads hf (p := ⟨w.heap.size, 4, none⟩) (u := .int .i64 x) (by go_simp)
  have c5 := Class.reads hf (p := ⟨w.heap.size, 5, none⟩) (u := .int .i64 y) (by go_simp)
  have c6 := Class.reads hf (p := ⟨w.heap.size, 6, none⟩) (u := .int .i64 an) (by go_simp)
  simp only [List.take_succ_cons, List.take_zero, List.drop_succ_cons, List.drop_zero]
  repeat (go_big_quiet_step ((first | (go_at_call 15; with_reducible exact hf.made (vbring_is _ _ _ _ _ _ hx hy iM EX.out EY.out)) | (go_at_call 21; with_reducible exact hf.made (HS.out _)))))
  refine wpQuiet_nil ?_
  intro w1 h1
  have hb := hf.here h1
  have hH : Has w1 (w.heap.size + 1) 34 #[.int .i64 0, .int .i64 0, .int .i64 0, .int .i64 0, .int .i64 0, .int .i64 0, .int .i64 0, .int .i64 0, .int .i64 0, .int .i64 0, .slice none 0 0] := (has_next w (.cells (#[.int .i64 K, .int .i64 N, .int .i64 S, .int .i64 T, .int .i64 x, .int .i64 y, .int .i64 an] : Array Value) 28) 34 #[.int .i64 0, .int .i64 0, .int .i64 0, .int .i64 0, .int .i64 0, .int .i64 0, .int .i64 0, .int .i64 0, .int .i64 0, .int .i64 0, .slice none 0 0]).stays hb (by simp)
  have z0 := hH.at_ 0
  have z1 := hH.at_ 1
  have z2 := hH.at_ 2
  have z3 := hH.at_ 3
  have z4 := hH.at_ 4
  have z5 := hH.at_ 5
  have z6 := hH.at_ 6
  have z7 := hH.at_ 7
  have z8 := hH.at_ 8
  have z9 := hH.at_ 9
  have z10 := hH.at_ 10
  simp at z0 z1 z2 z3 z4 z5 z6 z7 z8 z9 z10
  have zf : ∀ i, w1.frozen? ⟨w.heap.size + 1, i, none⟩ = false := fun i => hH.free i
  have HH := hid hH
  have M1 := hid (made_box (made_box hb))
  clear hb h1 hf hH c0 c1 c2 c3 c4 c5 c6
  go_wp2_with fail
  obtain ⟨V, eV⟩ : ∃ V, V = (((((((((((w1.setCell ⟨w.heap.size + 1, 0, none⟩ (.int .i64 0)).setCell ⟨w.heap.size + 1, 1, none⟩ (.int .i64 X)).setCell ⟨w.heap.size + 1, 2, none⟩ (.int .i64 Y)).setCell ⟨w.heap.size + 1, 3, none⟩ (.int .i64 0)).setCell ⟨w.heap.size + 1, 4, none⟩ (.int .i64 0)).setCell ⟨w.heap.size + 1, 5, none⟩ (.int .i64 A)).setCell ⟨w.heap.size + 1, 6, none⟩ (.int .i64 0)).setCell ⟨w.heap.size + 1, 7, none⟩ (.int .i64 0)).setCell ⟨w.heap.size + 1, 8, none⟩ (.int .i64 1)).setCell ⟨w.heap.size + 1, 9, none⟩ (.int .i64 R)).setCell ⟨w.heap.size + 1, 10, none⟩ (.slice none 0 0)) := ⟨_, rfl⟩
  have hV : Has V (w.heap.size + 1) 34 #[.int .i64 0, .int .i64 X, .int .i64 Y, .int .i64 0, .int .i64 0, .int .i64 A, .int .i64 0, .int .i64 0, .int .i64 1, .int .i64 R, .slice none 0 0] := by
    rw [eV]
    exact HH.out.put11 _ _ _ _ _ _ _ _ _ _ _
  have kV : Made w.heap.size w V := by
    rw [eV]
    exact M1.out.put11 (by simp) _ _ _ _ _ _ _ _ _ _ _
  rw [← eV]
  have r0 := hV.at_ 0
  have r1 := hV.at_ 1
  have r2 := hV.at_ 2
  have r3 := hV.at_ 3
  have r4 := hV.at_ 4
  have r5 := hV.at_ 5
  have r6 := hV.at_ 6
  have r7 := hV.at_ 7
  have r8 := hV.at_ 8
  have r9 := hV.at_ 9
  have r10 := hV.at_ 10
  simp at r0 r1 r2 r3 r4 r5 r6 r7 r8 r9 r10
  exact bodyPost_ret (v := bodyV 0 X Y 0 0 A 0 0 1 R (.slice none 0 0)) (by simp [results, Try.results10, go_sem, r0, r1, r2, r3, r4, r5, r6, r7, r8, r9, r10]) rfl ⟨rfl, Nat.lt_of_le_of_lt (Nat.le_succ _) hV.here, kV⟩

/-- what a body of a place is: whatever the world -/
structure PlaceW (X Y A K R : Int) (ao : Nat → Option Addr) (sn : Nat) (ac : Nat → Nat) (bd : Bdy) : Prop where
  X0 : -4294967296000 ≤ X ∧ X ≤ 4294967296000
  Y0 : -4294967296000 ≤ Y ∧ Y ≤ 4294967296000
  A0 : 0 ≤ A ∧ A < 4294967296
  kind : (K = 1 ∧ (∀ g, ao g = none) ∧ sn = 0 ∧ (∀ c, ac c = 0) ∧ (268435456 ≤ R ∧ R ≤ 17179869184) ∧ bd = .disc (X, Y) R) ∨
    (K = 2 ∧ R = 0 ∧ (∀ g, ao g = some ⟨g, 0, none⟩) ∧ 3 ≤ sn ∧ sn ≤ 8 ∧ ∃ gx gy gk, Grid gx gy gk sn ∧ Around gx gy sn ∧ bd = .poly (placeF (grid gx gy gk) (cs (stepF A)) (Fx.sn (stepF A)) X Y) sn)
theorem PlaceW.i64 {X Y A K R : Int} {ao : Nat → Option Addr} {sn : Nat} {ac : Nat → Nat} {bd : Bdy} (h : PlaceW X Y A K R ao sn ac bd) : I64 X ∧ I64 Y ∧ I64 A ∧ I64 R := by
  obtain ⟨h1, h2, h3, h4⟩ := h
  refine ⟨by unfold I64; omega, by unfold I64; omega, by unfold I64; omega, ?_⟩
  rcases h4 with ⟨_, _, _, _, h, _⟩ | ⟨_, rfl, _⟩ <;> (unfold I64; omega)
/-- the body of a place -/
theorem place_is (a b c d x y an : Int) (ix : I64 x) (iy : I64 y) : ∃ X Y A K R ao sn ac bd, PlaceW X Y A K R ao sn ac bd ∧ ∀ w, Calls Try.prog 10 #[placeV a b c d x y an] w fun e w' =>
    ∃ g e', e = .returned (bodyV 0 X Y 0 0 A 0 0 K R (.slice (ao g) sn (ac e'))) ∧ w.heap.size ≤ g ∧ g < w'.heap.size ∧ BodyAt w' X Y A K R (.slice (ao g) sn (ac e')) bd ∧ Made w.heap.size w w' := by
  have bX := thou_bd ix
  have bY := thou_bd iy
  have iX : I64 (thou x) := by unfold I64; omega
  have iY : I64 (thou y) := by unfold I64; omega
  have iA : I64 (an % 4294967296) := by unfold I64; omega
  have i0 : I64 0 := by unfold I64; omega
  rcases seed_det a b c d with ⟨R, h⟩ | ⟨n, gx, gy, gk, h⟩
  · have iR : I64 R := by have := h.1; have := h.2.1; unfold I64; omega
    refine ⟨thou x, thou y, an % 4294967296, 1, R, fun _ => none, 0, fun _ => 0, .disc (thou x, thou y) R, ⟨bX, bY, by omega, .inl ⟨rfl, fun _ => rfl, rfl, fun _ => rfl, ⟨h.1, h.2.1⟩, rfl⟩⟩, fun w => ?_⟩
    refine (place_circle' h x y an _ _ _ w ix iy rfl rfl rfl).mono ?_
    rintro e w' ⟨rfl, hs, k⟩
    exact ⟨w.heap.size, 0, rfl, Nat.le_refl _, hs, ⟨iX, iY, iA, iR, .inl ⟨rfl, rfl, rfl⟩⟩, k⟩
  · have g3 := h.1.n0
    have g8 := h.1.n1
    refine ⟨thou x, thou y, an % 4294967296, 2, 0, fun g => some ⟨g, 0, none⟩, n, fun c => c, _, ⟨bX, bY, by omega, .inr ⟨rfl, rfl, fun _ => rfl, g3, g8, gx, gy, gk, h.1, h.2.1, rfl⟩⟩, fun w => ?_⟩
    refine (place_poly h x y an _ _ _ w ix iy rfl rfl rfl).mono ?_
    rintro e w' ⟨g, c', rfl, hg, hr, k⟩
    exact ⟨g, c', rfl, hg, hr.here, ⟨iX, iY, iA, i0, .inr ⟨rfl, rfl, g, 0, n, c', _, rfl, g3, g8, hr.pts, grid_i64 h.1, rfl⟩⟩, k⟩

/-- two bodies of places made, and variables for bodies -/
def alB (f1 f2 : World → Nat → Nat → Prop) (i : Nat) (v : World) (g e : Nat) : Prop :=
  if i = 1 then f1 v g e else if i = 3 then f2 v g e else Has v g 34 #[.int .i64 0, .int .i64 0, .int .i64 0, .int .i64 0, .int .i64 0, .int .i64 0, .int .i64 0, .int .i64 0, .int .i64 0, .int .i64 0, .slice none 0 0]
def valB (v1 v2 : Nat → Nat → Value) (i g e : Nat) : Value := if i = 1 then v1 g e else if i = 3 then v2 g e else .pointer (some ⟨g, 0, none⟩)
theorem alB_lasts {f1 f2 : World → Nat → Nat → Prop} (h1 : ∀ u v g e, f1 u g e → Made u.heap.size u v → f1 v g e) (h2 : ∀ u v g e, f2 u g e → Made u.heap.size u v → f2 v g e) : MK.Lasts (alB f1 f2) := fun i u v g e h hg k => by
  unfold alB at h ⊢
  split
  · rename_i e1; rw [if_pos e1] at h; exact h1 _ _ _ _ h k
  · rename_i e1; rw [if_neg e1] at h
    split
    · rename_i e2; rw [if_pos e2] at h; exact h2 _ _ _ _ h k
    · rename_i e2; rw [if_neg e2] at h; exact h.stays k hg
/-- no touch has more than two points -/
theorem pts_two (a b : Bdy) : ((wantF a b).getD noTch).pts.length ≤ 2 := by
  have hc : ∀ N v u r key, ((cornerF N v u r key).getD noTch).pts.length ≤ 2 := fun N v u r key => by
    unfold cornerF; split <;> simp [noTch, oneT]
  have hm : ∀ P n c r, ((mixedF P n c r).getD noTch).pts.length ≤ 2 := fun P n c r => by
    unfold mixedF mixedI
    split
    · simp [noTch]
    · split
      · simp [oneT]
      · split
        · exact hc _ _ _ _ _
        · split
          · exact hc _ _ _ _ _
          · simp [oneT]
  have hn : ∀ t : Option Tch, ((t.map negT).getD noTch).pts = (t.getD noTch).pts := fun t => by cases t <;> rfl
  have he : ∀ N v x key, (endsF N v x key).length ≤ 1 := fun N v x key => by unfold endsF; split <;> simp
  have hp : ∀ N v x y key, ((pointsF N v x y key).getD noTch).pts.length ≤ 2 := fun N v x y key => by
    have := he N v x key
    have := he N v y (key + 1)
    unfold pointsF
    split
    · simp [noTch]
    · show (endsF N v x key ++ endsF N v y (key + 1)).length ≤ 2
      rw [List.length_append]; omega
  have hk : ∀ P n Q m i key, ((clipF P n Q m i key).getD noTch).pts.length ≤ 2 := fun P n Q m i key => by
    unfold clipF clipV
    split
    · simp [noTch]
    · split
      · simp [noTch]
      · exact hp _ _ _ _ _
  cases a with
  | disc a r =>
    cases b with
    | disc b s => show ((roundsF a r b s).getD noTch).pts.length ≤ 2; unfold roundsF; split <;> simp [noTch, oneT]
    | poly Q m => show (((mixedF Q m a r).map negT).getD noTch).pts.length ≤ 2; rw [hn]; exact hm _ _ _ _
  | poly P n =>
    cases b with
    | disc b s => exact hm _ _ _ _
    | poly Q m =>
      show ((polysF P n Q m).getD noTch).pts.length ≤ 2
      unfold polysF
      split
      · simp [noTch]
      · split
        · rw [hn]; exact hk _ _ _ _ _ _
        · exact hk _ _ _ _ _ _
end Go.Proofs.Ytmfkcdinfahjlaa.Fx
