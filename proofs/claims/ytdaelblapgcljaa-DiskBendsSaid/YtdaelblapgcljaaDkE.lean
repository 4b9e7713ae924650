/- Package disk: copies of bytes and of names; a file's block written; Sync, Read. -/
import Derived.Test.YtdaelblapgcljaaDkD
import Derived.Test.YtdaelblapgcljaaCrE
import Derived.Test.YtdaelblapgcljaaLayD
namespace Go.Proofs.Ytdaelblapgcljaa.Fx
open Go.ChangeShapes Go.WideShapes Go.ChangeAt Go.RowKit Go.Maps
set_option linter.unusedVariables false

set_option maxRecDepth 100000 in
set_option maxHeartbeats 2000000 in
theorem clone8_c {n c : Nat} {ao : Option Addr} {f : Nat → Nat} {w : World} (hB : By w ao n f) (hn : n ≤ 1099511627776) (h0 : ao = none → n = 0) :
    Calls Try.prog 45 #[.slice ao n c] w fun e w' => ∃ v, e = .returned v ∧ OB w' w.heap.size v n f ∧ Below w.heap.size w w' := by
  cases ao with
  | none =>
    have e0 := h0 rfl
    subst e0
    have q : ∀ w : World, (binOp .eql 29 (.slice none 0 c) (.slice none 0 0)).run Try.prog w = .ok (.bool true) w := fun w => Lib.run_eql_slice_nil w _ _ _ _ _ _ _ Try.underlying29
    clear hB h0
    go_enter Try.func45, Try.ntmps45
    go_wp2_with fail
    go_ret
    exact ⟨_, rfl, OB.nil _ _ _, Below.refl _ _⟩
  | some a =>
    have q : ∀ w : World, (binOp .eql 29 (.slice (some a) n c) (.slice none 0 0)).run Try.prog w = .ok (.bool false) w := fun w => Lib.run_eql_slice_nil w _ _ _ _ _ _ _ Try.underlying29
    have hB1 : By (w.alloc (.cells #[] 5)) (some a) n f := hB.bel (below_new w _)
    have hO1 : OB (w.alloc (.cells #[] 5)) w.heap.size (.slice (some ⟨w.heap.size, 0, none⟩) 0 0) 0 f :=
      ⟨rfl, .inr ⟨w.heap.size, 0, #[], rfl, Nat.le_refl _, has_new w _ _, Nat.le_refl _, Nat.zero_le _, rfl, rfl⟩⟩
    obtain ⟨v', w', hr, hO, hg, _⟩ := append_by_at (c := c) 29 hO1 hB1 (by omega) (by simp)
    have hb : Below w.heap.size w w' := (below_new w _).grown hg (by simp) (fun k hk => by cases hk; exact Nat.le_refl _)
    rw [Nat.zero_add] at hO
    have HR := hid hr; have HO := hid (hO.congr (g := f) fun i hi => by unfold joinB; rw [if_neg (by omega), Nat.sub_zero]); have HM := hid hb
    clear hr hO hb hB hB1 hO1 hg h0
    go_enter Try.func45, Try.ntmps45
    go_wp2_with (at_builtin; refine Lib.wpList_append_run _ rfl _ _ _ _ rfl _ _ rfl rfl _ _ HR.out ?_)
    go_ret
    exact ⟨_, rfl, HO.out, HM.out⟩
/-- names, copied -/
theorem cloneM_c {b n : Nat} {D : DataW Unit} {w : World} (h : w.ownsMap Try.prog 9 (plainElem Try.prog 3) b n D) :
    Calls Try.prog 46 #[.map (some b)] w fun e w' => e = .returned (.map (some w.heap.size)) ∧ w'.ownsMap Try.prog 9 (plainElem Try.prog 3) w.heap.size n D ∧ w'.ownsMap Try.prog 9 (plainElem Try.prog 3) b n D ∧ Below w.heap.size w w' :=
  AnyW.maps_Clone_owns layMC 9 (plainElem Try.prog 3) b n D w h
/-! ### a file's block is written -/
theorem ty_eq {w : World} {g : Nat} {a b : Array Value} {t t' : TypeId} {z z' : Nat × Nat} (h : w.heap[g]? = some (.cells a t z)) (k : w.heap[g]? = some (.cells b t' z')) : t = t' := by
  have := h.symm.trans k
  injection this with this
  injection this
theorem mh_ids {bl : Nat → Nat} {D : DataW Unit} {l l' : List Fil} (h : FlM bl D l) (e : l'.map (·.id) = l.map (·.id)) : FlM bl D l' := by
  have m1 : ∀ i, (∃ f ∈ l', f.id = i) ↔ ∃ f ∈ l, f.id = i := fun i => by
    have h1 : i ∈ l'.map (·.id) ↔ i ∈ l.map (·.id) := by rw [e]
    simpa [List.mem_map] using h1
  refine ⟨h.tidy, fun kl => (h.has kl).trans ⟨?_, ?_⟩, fun f hf z => ?_⟩
  · rintro ⟨f, hf, rfl⟩
    obtain ⟨g, hg, e⟩ := (m1 f.id).2 ⟨f, hf, rfl⟩
    exact ⟨g, hg, by show kk _ = kk _; rw [e]⟩
  · rintro ⟨f, hf, rfl⟩
    obtain ⟨g, hg, e⟩ := (m1 f.id).1 ⟨f, hf, rfl⟩
    exact ⟨g, hg, by show kk _ = kk _; rw [e]⟩
  · obtain ⟨g, hg, e⟩ := (m1 f.id).1 ⟨f, hf, rfl⟩
    have := h.at_ g hg z
    show D.atKey (kk _) z = .lit (.int .i64 (bl f.id : Nat))
    rw [← e]
    exact this
theorem mem_put {l : List Fil} (hd : (l.map (·.id)).Pairwise (· < ·)) {f : Fil} (hf : f ∈ l) {g : Fil → Fil} {x : Fil} (hx : x ∈ putD l f.id g) : x = g f ∨ x ∈ l ∧ x.id ≠ f.id := by
  obtain ⟨y, hy, rfl⟩ := List.mem_map.mp hx
  by_cases e : y.id = f.id
  · rw [if_pos e]
    have h1 := file_of hd hy
    have h2 := file_of hd hf
    rw [e, h2] at h1
    injection h1 with h1
    exact .inl (by rw [h1])
  · rw [if_neg e]
    exact .inr ⟨hy, e⟩
/-- k with another row for a file -/
def Dk.row (k : Dk) (i : Nat) (v : Value) : Dk := { k with ro := fun j => if j = i then v else k.ro j }
theorem Rest.putf {w v : World} {k : Dk} {d d' : Dsk} (h : Rest w k d) (hd : (d.files.map (·.id)).Pairwise (· < ·)) {f : Fil} (hf : f ∈ d.files) {g : Fil → Fil} (hg : ∀ f, (g f).id = f.id) {x : Value} {Y : Nat → Prop} (t : Tn Y w v)
    (hY : ∀ b, Y b → b = k.bl f.id ∨ (k.ro f.id).ownBlock = some b) (hH : Has v (k.bl f.id) 86 #[x, .int .i64 ((g f).sure : Nat)]) (hO : OB v 0 x (g f).b.length (gb (g f).b)) (hx : x.ownBlock = (k.ro f.id).ownBlock ∨ ∀ b, x.ownBlock = some b → w.heap.size ≤ b)
    (g1 : d'.names = d.names) (g2 : d'.sure = d.sure) (g3 : d'.chg = d.chg) (g4 : d'.files = putD d.files f.id g) : Rest v (k.row f.id x) d' ∧ ∀ b, FootR (k.row f.id x) d' b → FootR k d b ∨ w.heap.size ≤ b := by
  have hfile := h.fl f hf
  have tyF : ∀ b, (b = k.bl f.id ∨ (k.ro f.id).ownBlock = some b) → ∃ cs t, w.heap[b]? = some (.cells cs t (0, 0)) ∧ (t = 86 ∨ t = 5) := by
    rintro b (rfl | hb)
    · exact ⟨_, _, hfile.1, .inl rfl⟩
    · obtain ⟨cur, hc⟩ := own_ty hfile.2 hb; exact ⟨_, _, hc, .inr rfl⟩
  have nomap : ∀ {kt : TypeId} {R : Value → Option (DataW Unit × List MemPlace)} {b n : Nat} {D : DataW Unit}, w.ownsMap Try.prog kt R b n D → ¬ Y b := by
    intro kt R b n D hm hy
    obtain ⟨cs, t, e, _⟩ := tyF b (hY b hy)
    obtain ⟨es, c, e2⟩ := map_obj hm
    rw [e] at e2; cases e2
  obtain ⟨D1, a1, b1⟩ := h.mn
  obtain ⟨D2, a2, b2⟩ := h.ms
  obtain ⟨D3, a3, b3⟩ := h.mf
  have e1 : (k.row f.id x).ro f.id = x := by show (if f.id = f.id then x else _) = x; rw [if_pos rfl]
  have e2 : ∀ j, j ≠ f.id → (k.row f.id x).ro j = k.ro j := fun j hj => by show (if j = f.id then x else _) = _; rw [if_neg hj]
  have hl : d'.files.length = d.files.length := by rw [g4]; simp [putD]
  have other : ∀ y ∈ d.files, y.id ≠ f.id → Has v (k.bl y.id) 86 #[k.ro y.id, .int .i64 (y.sure : Nat)] ∧ OB v 0 (k.ro y.id) y.b.length (gb y.b) := by
    intro y hy hne
    have h1 := h.fl y hy
    refine ⟨h1.1.tn t fun hyy => ?_, h1.2.tn t fun b hb hyy => ?_⟩
    · rcases hY _ hyy with e | e
      · exact hne (h.bi y hy f hf e)
      · obtain ⟨cur, hc⟩ := own_ty hfile.2 e
        exact absurd (ty_eq hc h1.1) (by decide)
    · rcases hY _ hyy with e | e
      · subst e
        obtain ⟨cur, hc⟩ := own_ty h1.2 hb
        exact absurd (ty_eq hc hfile.1) (by decide)
      · exact hne (h.ri y hy f hf b hb e)
  refine ⟨⟨?_, ?_, ?_, ?_, ?_, h.m1, h.m2, h.m3, ?_, ?_⟩, ?_⟩
  · rw [g1]; exact ⟨D1, map_tn a1 t (nomap a1), b1⟩
  · rw [g2]; exact ⟨D2, map_tn a2 t (nomap a2), b2⟩
  · rw [hl]; exact ⟨D3, map_tn a3 t (nomap a3), mh_ids b3 (by rw [g4]; exact put_ids _ _ _ hg)⟩
  · unfold chV; rw [g3]
    refine own_tn h.ch t fun b hb hy => ?_
    obtain ⟨cs, ty, e, ht⟩ := tyF b (hY b hy)
    obtain ⟨cur, e'⟩ := own_ty h.ch hb
    rcases ht with rfl | rfl
    · exact absurd (ty_eq e' e) (by decide)
    · exact absurd (ty_eq e' e) (by decide)
  · intro y hy
    rw [g4] at hy
    rcases mem_put hd hf hy with rfl | ⟨hy, hne⟩
    · rw [hg, e1]
      exact ⟨hH, hO⟩
    · rw [e2 _ hne]
      exact other y hy hne
  · intro y hy z hz e
    rw [g4] at hy hz
    have fy : ∃ u ∈ d.files, u.id = y.id := by
      rcases mem_put hd hf hy with rfl | ⟨hy, _⟩
      · exact ⟨f, hf, (hg f).symm⟩
      · exact ⟨y, hy, rfl⟩
    have fz : ∃ u ∈ d.files, u.id = z.id := by
      rcases mem_put hd hf hz with rfl | ⟨hz, _⟩
      · exact ⟨f, hf, (hg f).symm⟩
      · exact ⟨z, hz, rfl⟩
    obtain ⟨u, hu, eu⟩ := fy
    obtain ⟨u', hu', eu'⟩ := fz
    have := h.bi u hu u' hu' (by rw [eu, eu']; exact e)
    rw [← eu, ← eu', this]
  · intro y hy z hz b hb1 hb2
    rw [g4] at hy hz
    have xx : ∀ u ∈ d.files, u.id ≠ f.id → (k.ro u.id).ownBlock = some b → x.ownBlock = some b → False := by
      intro u hu hne h1 h2
      rcases hx with hx | hx
      · exact hne (h.ri u hu f hf b h1 (hx ▸ h2))
      · have := own_lt (h.fl u hu).2 h1
        have := hx b h2
        omega
    rcases mem_put hd hf hy with rfl | ⟨hy, hne⟩ <;> rcases mem_put hd hf hz with rfl | ⟨hz, hne'⟩
    · rfl
    · rw [hg, e1] at hb1
      rw [e2 _ hne'] at hb2
      exact (xx z hz hne' hb2 hb1).elim
    · rw [hg, e1] at hb2
      rw [e2 _ hne] at hb1
      exact (xx y hy hne hb1 hb2).elim
    · rw [e2 _ hne] at hb1
      rw [e2 _ hne'] at hb2
      exact h.ri y hy z hz b hb1 hb2
  · rintro b (hb | hb | hb | hb | ⟨y, hy, hb⟩)
    · exact .inl (.inl hb)
    · exact .inl (.inr (.inl hb))
    · exact .inl (.inr (.inr (.inl hb)))
    · refine .inl (.inr (.inr (.inr (.inl ?_))))
      unfold chV at hb ⊢
      rwa [g3] at hb
    · rw [g4] at hy
      rcases mem_put hd hf hy with rfl | ⟨hy, hne⟩
      · rw [hg, e1] at hb
        rcases hb with hb | hb
        · exact .inl (.inr (.inr (.inr (.inr ⟨f, hf, .inl hb⟩))))
        · rcases hx with hx | hx
          · exact .inl (.inr (.inr (.inr (.inr ⟨f, hf, .inr (hx ▸ hb)⟩))))
          · exact .inr (hx b hb)
      · rw [e2 _ hne] at hb
        exact .inl (.inr (.inr (.inr (.inr ⟨y, hy, hb⟩))))
theorem DAt.putf {w v : World} {k : Dk} {d d' : Dsk} (h : DAt w k d) (hd : (d.files.map (·.id)).Pairwise (· < ·)) {f : Fil} (hf : f ∈ d.files) {g : Fil → Fil} (hg : ∀ f, (g f).id = f.id) {x : Value} {Y : Nat → Prop} (t : Tn Y w v)
    (hY : ∀ b, Y b → b = k.bl f.id ∨ (k.ro f.id).ownBlock = some b) (hH : Has v (k.bl f.id) 86 #[x, .int .i64 ((g f).sure : Nat)]) (hO : OB v 0 x (g f).b.length (gb (g f).b)) (hx : x.ownBlock = (k.ro f.id).ownBlock ∨ ∀ b, x.ownBlock = some b → w.heap.size ≤ b)
    (e : d' = { d with files := putD d.files f.id g }) : DRes w v k d (k.row f.id x) d' := by
  subst e
  have hYf : ∀ b, Y b → FootR k d b := fun b hb => .inr (.inr (.inr (.inr ⟨f, hf, hY b hb⟩)))
  obtain ⟨h1, h2⟩ := h.rest.putf (d' := { d with files := putD d.files f.id g }) hd hf hg t hY hH hO hx rfl rfl rfl rfl
  refine ⟨⟨h.top.tn t fun hy => h.rest.top_ne h.top (hYf _ hy), ⟨h.arm.lo, h.arm.hi, h.arm.dI, h.arm.fI, h.arm.dn, h.arm.fl, h.arm.was⟩, h1⟩, rfl, fun b hb => ?_, t.up fun b hb => .inl (.inr (hYf b hb))⟩
  rcases hb with hb | hb
  · exact .inl (.inl hb)
  · exact (h2 b hb).imp .inr id
end Go.Proofs.Ytdaelblapgcljaa.Fx
