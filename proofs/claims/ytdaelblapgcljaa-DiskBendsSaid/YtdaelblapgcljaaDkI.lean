/- Package disk: a change is made and kept. -/
import Derived.Test.YtdaelblapgcljaaDkH
import Derived.Test.YtdaelblapgcljaaMkb
namespace Go.Proofs.Ytdaelblapgcljaa.Fx
open Go.ChangeShapes Go.WideShapes Go.ChangeAt Go.RowKit Go.Maps
set_option linter.unusedVariables false

theorem infoCh : (Try.prog.info? 89).map (fun i => (i.zero, i.size, i.bytes)) = some (some (.agg #[.string ByteArray.empty, .string ByteArray.empty, .int .i64 0]), 3, 40) := by kernel_rfl
theorem DOl.nm {d : Dsk} (h : DOl d) : NmOk d.names := ⟨h.ok.word, h.ok.names.names⟩
theorem DOl.nms {d : Dsk} (h : DOl d) : NmOk d.sure := ⟨h.ok.sw, by
  have := h.ok.chg 0 (Nat.zero_le _)
  rw [List.take_zero] at this
  exact this.names⟩
theorem DOl.nlen {d : Dsk} (h : DOl d) : d.names.length ≤ d.next := Nat.le_trans (NamOk.le h.ok.names) h.idle
theorem DOl.slen {d : Dsk} (h : DOl d) : d.sure.length ≤ d.next := by
  have := h.ok.chg 0 (Nat.zero_le _)
  rw [List.take_zero] at this
  exact Nat.le_trans (NamOk.le this) h.idle
theorem cells_ch (W : World) (c : Chg) (j : Nat) (u : Value) (h : (encG c)[j]? = some u) : (W.alloc (.cells #[.string c.fr, .string c.to, .int .i64 (c.f : Nat)] 89)).cell? ((⟨W.heap.size, 0, none⟩ : Addr).add j) = some u := by
  rw [Addr.add_lit, Nat.zero_add, (has_new W 89 #[.string c.fr, .string c.to, .int .i64 (c.f : Nat)]).at_ j]
  simpa [encG] using h
/-- names have turned -/
theorem DAt.names_ {w v : World} {k : Dk} {d : Dsk} (h : DAt w k d) {l : List Nam} (hn : ∃ D, v.ownsMap Try.prog 9 (plainElem Try.prog 3) k.bn l.length D ∧ NM D l) (t : Tn (fun x => x = k.bn) w v) : DRes w v k d k { d with names := l } := by
  have hb : FootR k d k.bn := .inl rfl
  obtain ⟨D1, a1, b1⟩ := h.rest.mn
  obtain ⟨D2, a2, b2⟩ := h.rest.ms
  obtain ⟨D3, a3, b3⟩ := h.rest.mf
  refine ⟨⟨h.top.tn t fun e => h.rest.top_ne h.top (e ▸ hb), ⟨h.arm.lo, h.arm.hi, h.arm.dI, h.arm.fI, h.arm.dn, h.arm.fl, h.arm.was⟩,
    ⟨hn, ⟨D2, map_tn a2 t fun e => h.rest.m1 e.symm, b2⟩, ⟨D3, map_tn a3 t fun e => h.rest.m2 e.symm, b3⟩, own_tn h.rest.ch t fun g hg e => map_own a1 h.rest.ch hg e, fun f hf => ⟨(h.rest.fl f hf).1.tn t fun e => map_has a1 (h.rest.fl f hf).1 e, (h.rest.fl f hf).2.tn t fun g hg e => map_own a1 (h.rest.fl f hf).2 hg e⟩,
      h.rest.m1, h.rest.m2, h.rest.m3, h.rest.bi, h.rest.ri⟩⟩, rfl, fun b hb => .inl hb, t.up fun b hb => .inl (.inr (.inl hb))⟩
/-- the row of changes is another one -/
theorem DAt.chg_ {w v : World} {k : Dk} {d : Dsk} (h : DAt w k d) {l : List Chg} {co : Option Addr} {cc : Nat} (ht : Has v k.p 62 (topA { k with co := co, cc := cc } { d with chg := l }))
    (hc : v.ownsRow 0 89 3 (.slice co l.length cc) l.length (flatE encG l)) (hat : (Value.slice co l.length cc).ownBlock = (chV k d).ownBlock ∨ ∀ b, (Value.slice co l.length cc).ownBlock = some b → w.heap.size ≤ b)
    (t : Tn (fun x => x = k.p ∨ some x = (chV k d).ownBlock) w v) : DRes w v k d { k with co := co, cc := cc } { d with chg := l } := by
  have hpn := h.rest.top_ne h.top
  have hch := h.rest.ch
  obtain ⟨D1, a1, b1⟩ := h.rest.mn
  obtain ⟨D2, a2, b2⟩ := h.rest.ms
  obtain ⟨D3, a3, b3⟩ := h.rest.mf
  have nm : ∀ {kt : TypeId} {R : Value → Option (DataW Unit × List MemPlace)} {b n : Nat} {D : DataW Unit}, w.ownsMap Try.prog kt R b n D → ¬ (b = k.p ∨ some b = (chV k d).ownBlock) := by
    intro kt R b n D hm hy
    rcases hy with e | e
    · exact map_has hm h.top e.symm
    · exact map_own hm hch e.symm rfl
  have sub : ∀ b, FootR { k with co := co, cc := cc } { d with chg := l } b → FootR k d b ∨ w.heap.size ≤ b := by
    rintro b (hb | hb | hb | hb | hb)
    · exact .inl (.inl hb)
    · exact .inl (.inr (.inl hb))
    · exact .inl (.inr (.inr (.inl hb)))
    · rcases hat with e | e
      · exact .inl (.inr (.inr (.inr (.inl (e ▸ hb)))))
      · exact .inr (e b hb)
    · exact .inl (.inr (.inr (.inr (.inr hb))))
  refine ⟨⟨ht, ⟨h.arm.lo, h.arm.hi, h.arm.dI, h.arm.fI, h.arm.dn, h.arm.fl, h.arm.was⟩,
    ⟨⟨D1, map_tn a1 t (nm a1), b1⟩, ⟨D2, map_tn a2 t (nm a2), b2⟩, ⟨D3, map_tn a3 t (nm a3), b3⟩, hc, fun f hf => ?_, h.rest.m1, h.rest.m2, h.rest.m3, h.rest.bi, h.rest.ri⟩⟩, rfl, fun b hb => ?_, t.up fun b hb => .inl ?_⟩
  · have h1 := h.rest.fl f hf
    refine ⟨h1.1.tn t ?_, h1.2.tn t fun g hg => ?_⟩
    · rintro (e | e)
      · exact absurd (ty_eq (e ▸ h1.1) h.top) (by decide)
      · obtain ⟨cur, hh⟩ := own_ty hch e.symm
        exact absurd (ty_eq hh h1.1) (by decide)
    · obtain ⟨cur, hg2⟩ := own_ty h1.2 hg
      rintro (e | e)
      · subst e; exact absurd (ty_eq hg2 h.top) (by decide)
      · obtain ⟨cur', hh⟩ := own_ty hch e.symm
        exact absurd (ty_eq hh hg2) (by decide)
  · rcases hb with hb | hb
    · exact .inl (.inl hb)
    · exact (sub b hb).imp .inr id
  · rcases hb with hb | hb
    · exact .inl hb
    · exact .inr (.inr (.inr (.inr (.inl hb.symm))))
theorem move_pure {P : Program} {o : Oper} {x : Operand} (h : o.op = .move x) : Pure P o := by
  intro a C w v hq w'
  unfold Oper.quietAt at hq
  unfold execOp at hq ⊢
  rw [h] at hq ⊢
  simp only [Sem.run_pure, Oper.quietUpon] at hq ⊢
  rw [hq.2]
def alG (c : Chg) (i : Nat) (v : World) (g : Nat) (e : MB.Ex) : Prop := Has v g 89 #[.string c.fr, .string c.to, .int .i64 (c.f : Nat)] ∧ e.hi = g + 1
theorem alG_lasts (c : Chg) : MB.Lasts (alG c) := fun i u v g e h hh k => ⟨h.1.kept k h.1.here, h.2⟩
def valG (i g : Nat) (e : MB.Ex) : Value := .slice (some ⟨g, 0, none⟩) 1 1
set_option maxRecDepth 100000 in
set_option maxHeartbeats 4000000 in
theorem dchange_c {w : World} {k : Dk} {d : Dsk} (h : DAt w k d) (hn : NmOk d.names) (hl : d.names.length ≤ 1073741824) (hl2 : d.chg.length ≤ 1073741824) {c : Chg} (hcz : (c.to.size = 0 ∧ c.f = 0) ∨ (nameD c.to ∧ 0 < c.f)) (hfr : c.fr.size ≤ maxLen) (hf : c.f ≤ 1073741824) :
    Calls Try.prog 43 #[.pointer (some ⟨k.p, 0, none⟩), .agg #[.string c.fr, .string c.to, .int .i64 (c.f : Nat)]] w fun e w' => e = .returned (.tuple #[]) ∧ ∃ k', DRes w w' k d k' (changeD d c) := by
  have HA := hid h
  obtain ⟨i1, hi1, hz0, hz1, hz2⟩ := info_parts infoCh
  obtain ⟨p, ep⟩ : ∃ p, k.p = p := ⟨_, rfl⟩
  obtain ⟨bn, en⟩ : ∃ p, k.bn = p := ⟨_, rfl⟩
  have EP := hid (And.intro ep en)
  have hlt : p < w.heap.size := ep ▸ h.top.here
  obtain ⟨-, c1, -⟩ := h.cells
  rw [ep, en] at c1
  rw [ep]
  have HDO := hid (fun (v : World) (D : DataW Unit) (ho : v.ownsMap Try.prog 9 (plainElem Try.prog 3) bn d.names.length D) (hm : NM D d.names) => ddo_c (c := c) ho hm hn hcz hfr hf hl)
  obtain ⟨F, T, i⟩ := c
  simp only at hcz hfr hf HDO ⊢
  have HW1 : Hid (DRes w (w.alloc (.cells #[.string F, .string T, .int .i64 (i : Nat)] 89)) k d k d) := DRes.below h (below_new w _)
  obtain ⟨G, eG⟩ : ∃ G, w.heap.size = G := ⟨_, rfl⟩
  have EG := hid eG
  have b0 : (w.alloc (.cells #[.string F, .string T, .int .i64 (i : Nat)] 89)).cell? ⟨G, 0, none⟩ = some (.string F) := by rw [← eG, (has_new w _ _).at_ 0]; rfl
  have b1 : (w.alloc (.cells #[.string F, .string T, .int .i64 (i : Nat)] 89)).cell? ⟨G, 1, none⟩ = some (.string T) := by rw [← eG, (has_new w _ _).at_ 1]; rfl
  have b2 : (w.alloc (.cells #[.string F, .string T, .int .i64 (i : Nat)] 89)).cell? ⟨G, 2, none⟩ = some (.int .i64 (i : Nat)) := by rw [← eG, (has_new w _ _).at_ 2]; rfl
  have a1 : (w.alloc (.cells #[.string F, .string T, .int .i64 (i : Nat)] 89)).cell? ⟨p, 1, none⟩ = some (.map (some bn)) := Below.reads (below_new w _) c1
  clear h hn hcz hfr hf hl ep en c1 
  go_enter Try.func43, Try.ntmps43
  go_upto_region 1 with fail
  obtain ⟨W1, eW⟩ : ∃ W1, w.alloc (.cells #[.string F, .string T, .int .i64 (i : Nat)] 89) = W1 := ⟨_, rfl⟩
  rw [eW] at HW1 b0 b1 b2 a1
  have HG : Hid (G < W1.heap.size) := by unfold Hid; rw [← eW, ← eG]; simp
  try rw [eW]
  clear eW eG
  refine reg_below_tail 5 (by kernel_rfl) (by kernel_rfl) ?_
  intro T1 hT fw hf
  have x0 := hf.reads b0
  have x1 := hf.reads b1
  have x2 := hf.reads b2
  have y1 := hf.reads a1
  simp only [List.take_succ_cons, List.take_zero]
  repeat (go_big_quiet_step (fail))
  refine wpQuiet_nil ?_
  intro w2 h2
  have k2 := hf.here h2
  have HW2 := hid (HW1.out.then_ (DRes.below HW1.out.at_ k2))
  have HG2 : Hid (G < w2.heap.size ∧ ∀ j, w2.cell? ⟨G, j, none⟩ = W1.cell? ⟨G, j, none⟩) := ⟨Nat.lt_of_lt_of_le HG.out k2.size, fun j => k2.cell (p := ⟨G, j, none⟩) HG.out⟩
  obtain ⟨D, hown, hmap⟩ := HW2.out.at_.rest.mn
  have HC := hid (HDO.out w2 D (EP.out.2 ▸ hown) hmap)
  clear x0 x1 x2 y1 hf h2 k2 hown hmap HDO
  simp only [List.drop_succ_cons, List.drop_zero]
  go_wp2_with fail
  refine HC.out.mono ?_
  rintro e w3 ⟨rfl, hex, ht⟩
  have HR3 := hid (HW2.out.then_ (HW2.out.at_.names_ (by rw [EP.out.2]; exact hex) (by rw [EP.out.2]; exact ht)))
  have hgn : G ≠ bn := fun e => by
    have h1 : FootR k d bn := EP.out.2 ▸ .inl rfl
    have h2 := HA.out.rest.lt h1
    have := EG.out
    omega
  have e0 : w3.cell? ⟨G, 0, none⟩ = some (.string F) := ht.cell ((HG2.out.2 0).trans b0) hgn
  have e1 : w3.cell? ⟨G, 1, none⟩ = some (.string T) := ht.cell ((HG2.out.2 1).trans b1) hgn
  have e2 : w3.cell? ⟨G, 2, none⟩ = some (.int .i64 (i : Nat)) := ht.cell ((HG2.out.2 2).trans b2) hgn
  clear HW2 HG2 HC ht hex b0 b1 b2 a1 HW1 HG hgn
  -- the row of changes grows
  obtain ⟨d1, ed1⟩ : ∃ d1, d1 = { d with names := turnD d.names ⟨F, T, i⟩ } := ⟨_, rfl⟩
  rw [← ed1] at HR3
  have c3 : w3.cell? ⟨p, 3, none⟩ = some (chV k d1) := by rw [← EP.out.1]; exact HR3.out.at_.cells.2.2.2.1
  have hp3 : p < w3.heap.size := EP.out.1 ▸ HR3.out.at_.top.here
  have hG3 : G < w3.heap.size := World.block_lt_of_cell? (a := ⟨G, 0, none⟩) w3 e0
  have HE1 := hid ed1
  obtain ⟨m, em⟩ : ∃ m, d1.chg.length = m := ⟨_, rfl⟩
  have EM := hid em
  obtain ⟨co, eco⟩ : ∃ x, k.co = x := ⟨_, rfl⟩
  obtain ⟨cc, ecc⟩ : ∃ x, k.cc = x := ⟨_, rfl⟩
  have hch : chV k d1 = .slice co m cc := by unfold chV; rw [em, eco, ecc]
  rw [hch] at c3
  have HCH := hid hch
  clear ed1 em eco ecc hch
  go_upto_region 2 with fail
  refine MB.reg_mk (alG ⟨F, T, i⟩) 7 [0, 1, 2, 3, 4, 5, 6] [0, 1, 2, 3, 4, 5] [6] [0] (fun _ => []) (val := valG) (by kernel_rfl) (by kernel_rfl) (fun q hq o ho => by
    have hq : q = 0 := by simpa using hq
    subst hq
    have : o = _ := (Option.some.inj ho).symm
    subst this
    exact move_pure rfl) ?_
  refine MB.can_class (rest := [6]) [0, 1, 2, 3, 4, 5] [] 20 (alG_lasts _) (MB.any_class _) (by kernel_rfl) rfl (by kernel_rfl) (by kernel_rfl) ?_
  apply Exists.intro
  refine ⟨?r1, ?r2⟩
  case r1 =>
    intro Ty hTT fw hf _
    have x0 := hf.reads e0
    have x1 := hf.reads e1
    have x2 := hf.reads e2
    have x3 := hf.reads c3
    change wpQuiet _ _ _ _ [_, _, _, _, _, _] _
    repeat (go_big_quiet_step (fail))
    exact wpQuiet_nil rfl
  refine MB.can_mk 6 16 _ rfl rfl rfl rfl ?m2 fun q2 q3 => ?n2
  case m2 =>
    intro G' u _ hu
    rw [show (execOp _ _).run Try.prog u = .ok (.value (.slice (some ⟨u.heap.size, 0, none⟩) 1 1)) (u.alloc (.cells #[.string F, .string T, .int .i64 (i : Nat)] 89)) by kernel_rfl]
    exact ⟨u.heap.size, ⟨u.heap.size + 1, .bool false⟩, rfl, hu.next (alG_lasts _) (below_new u _) (Nat.le_refl _) (Nat.le_succ _) (by simp) ⟨has_new u _ _, rfl⟩⟩
  rw [show valG 6 q2 q3 = .slice (some ⟨q2, 0, none⟩) 1 1 from rfl]
  simp only [Act.put, List.setIfInBounds_toArray, List.set_cons_succ, List.set_cons_zero]
  intro A hu
  obtain ⟨hg7, hg8, hg9, h3, h3'⟩ := hu.2.1 6 (q2, q3) (by unfold MB.upd; simp)
  have hB := hu.1
  have hA : DAt A k d1 := HR3.out.at_.tn (Below.tn (X := NilB) hB) fun _ hh => hh.elim
  obtain ⟨v', w4, hrun, hown4, hg4, _, hat4⟩ := run_append_own_at (P := Try.prog) A 0 60 60 89 i1 _ 3 40 Try.underlying60 hi1 hz0 hz1 hz2 rfl (by omega) (chV k d1) d1.chg.length (flatE encG d1.chg) hA.rest.ch ⟨q2, 0, none⟩ 1 1 (encG ⟨F, T, i⟩) rfl (fun j u hj => by rw [Addr.add_lit, Nat.zero_add, h3.at_ j]; simpa [encG] using hj) (encG_one _) (by rw [HE1.out]; unfold maxLen; show d.chg.length + 1 ≤ _; omega) (by rw [HE1.out]; show (d.chg.length + 1) * 40 ≤ _; omega) (Nat.zero_le _)
  obtain ⟨co2, cc2, ev'⟩ : ∃ co2 cc2, v' = .slice co2 (d1.chg.length + 1) cc2 := by
    rcases hown4.2 with ⟨_, h0⟩ | ⟨g', cap, cur, e, _⟩
    · omega
    · exact ⟨_, _, e⟩
  subst ev'
  have HT4 : Hid (Tn (fun x => some x = (chV k d1).ownBlock) w3 w4) := ((Below.tn (X := fun x => some x = (chV k d1).ownBlock) hB)).then0 (tn_grown hg4)
  have hpn : ¬ (some p = (chV k d1).ownBlock) := fun e => by
    obtain ⟨cur, hh⟩ := own_ty hA.rest.ch e.symm
    exact absurd (ty_eq hh (EP.out.1 ▸ hA.top)) (by decide)
  have hH4 : Has w4 p 62 (topA k d1) := by
    have h1 : Has w3 p 62 (topA k d1) := EP.out.1 ▸ HR3.out.at_.top
    exact h1.tn HT4.out hpn
  rw [HCH.out, EM.out] at hrun
  have y3 : w4.cell? ⟨p, 3, none⟩ = some (.slice co m cc) := by rw [← HCH.out]; exact hH4.at_ 3
  have f3 := hH4.free 3
  have HSZ : Hid (∀ b, (Value.slice co2 (d1.chg.length + 1) cc2).ownBlock = (chV k d1).ownBlock ∨ ((Value.slice co2 (d1.chg.length + 1) cc2).ownBlock = some b → w3.heap.size ≤ b)) := fun b => by
    rcases hat4 with e | e
    · exact .inl e
    · refine .inr fun h => ?_
      rw [e] at h; cases h; exact hB.size
  have HAT := hid hat4
  have HBS := hid hB.size
  have HH4 := hid hH4; have HO4 := hid hown4; have HRUN := hid hrun
  clear hg4 hown4 hat4 hA hH4 hpn hu hB h3 h3' hg7 hg8 hg9 hrun e0 e1 e2 c3
  simp only [List.drop_succ_cons, List.drop_zero]
  go_wp2_with (at_builtin; refine Lib.wpList_append_run _ rfl _ _ _ _ rfl _ _ rfl rfl _ _ HRUN.out ?_)
  refine NoPanic.normal ?_
  go_wp2_with fail
  go_end0
  refine ⟨rfl, ?_⟩
  have hl3 : d1.chg ++ [⟨F, T, i⟩] = (changeD d ⟨F, T, i⟩).chg := by rw [HE1.out]; rfl
  have hfl : flatE encG d1.chg ++ encG ⟨F, T, i⟩ = flatE encG (d1.chg ++ [⟨F, T, i⟩]) := flatE_snoc _ _
  have hln : (d1.chg ++ [(⟨F, T, i⟩ : Chg)]).length = d1.chg.length + 1 := by simp
  have h5 := HO4.out
  rw [hfl] at h5
  have ee : changeD d ⟨F, T, i⟩ = { d1 with chg := d1.chg ++ [⟨F, T, i⟩] } := by rw [HE1.out]; rfl
  refine ⟨{ k with co := co2, cc := cc2 }, ?_⟩
  rw [ee]
  rw [← EM.out]
  refine HR3.out.then_ (HR3.out.at_.chg_ (l := d1.chg ++ [⟨F, T, i⟩]) (co := co2) (cc := cc2) ?_ ?_ ?_ ?_)
  · rw [EP.out.1]
    have h6 := HH4.out.put 3 (.slice co2 (d1.chg.length + 1) cc2)
    have e6 : (topA k d1).setIfInBounds 3 (.slice co2 (d1.chg.length + 1) cc2) = topA { k with co := co2, cc := cc2 } { d1 with chg := d1.chg ++ [⟨F, T, i⟩] } := by
      rw [← hln]
      rfl
    rw [e6] at h6
    exact h6
  · rw [hln]
    refine own_tn h5 (tn_put w4 ⟨p, 3, none⟩ _) fun g hg e => ?_
    subst e
    obtain ⟨cur, hh⟩ := own_ty h5 hg
    exact absurd (ty_eq hh HH4.out) (by decide)
  · rw [hln]
    rcases HAT.out with e | e
    · exact .inl e
    · exact .inr fun b hb => by rw [e] at hb; cases hb; exact HBS.out
  · rw [EP.out.1]
    exact (HT4.out.up fun b hb => .inl (.inr hb)).then_ (tn_put w4 ⟨p, 3, none⟩ _) fun b hb => .inl (.inl hb)
end Go.Proofs.Ytdaelblapgcljaa.Fx
