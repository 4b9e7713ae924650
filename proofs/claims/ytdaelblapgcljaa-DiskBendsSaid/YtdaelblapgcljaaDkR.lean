/- Package disk: settle; DirSync. -/
import Derived.Test.YtdaelblapgcljaaDkQ
namespace Go.Proofs.Ytdaelblapgcljaa.Fx
open Go.ChangeShapes Go.WideShapes Go.ChangeAt Go.RowKit Go.Maps
set_option linter.unusedVariables false

/-- the first n changes of names are sure -/
def foldT (d : Dsk) (n : Nat) : List Nam := (d.chg.take n).foldl turnD d.sure
def settleL (d : Dsk) (n : Nat) : Dsk := { d with names := foldT d n, sure := foldT d n, chg := [], files := forgetL (foldT d n) d.files }
theorem foldT_zero (d : Dsk) : foldT d 0 = d.sure := by unfold foldT; rw [List.take_zero]; rfl
theorem foldT_succ {d : Dsk} {n : Nat} {c : Chg} (h : d.chg[n]? = some c) : foldT d (n + 1) = turnD (foldT d n) c := by
  unfold foldT
  rw [List.take_add_one, h, List.foldl_append]
  rfl
theorem DOl.fold {d : Dsk} (h : DOl d) {n : Nat} (hn : n ≤ d.chg.length) : NmOk (foldT d n) ∧ NamOk (foldT d n) d.files ∧ (foldT d n).length ≤ d.next := by
  have h1 := h.ok.chg n hn
  refine ⟨⟨?_, h1.names⟩, h1, Nat.le_trans (NamOk.le h1) h.idle⟩
  exact fold_words _ _ h.ok.sw fun c hc => h.ok.cw c (List.mem_of_mem_take hc)
theorem DAt.sure_ {w v : World} {k : Dk} {d : Dsk} (h : DAt w k d) {l : List Nam} (hn : ∃ D, v.ownsMap Try.prog 9 (plainElem Try.prog 3) k.bs l.length D ∧ NM D l) (t : Tn (fun x => x = k.bs) w v) : DRes w v k d k { d with sure := l } := by
  have hb : FootR k d k.bs := .inr (.inl rfl)
  obtain ⟨D1, a1, b1⟩ := h.rest.mn
  obtain ⟨D2, a2, b2⟩ := h.rest.ms
  obtain ⟨D3, a3, b3⟩ := h.rest.mf
  refine ⟨⟨h.top.tn t fun e => h.rest.top_ne h.top (e ▸ hb), ⟨h.arm.lo, h.arm.hi, h.arm.dI, h.arm.fI, h.arm.dn, h.arm.fl, h.arm.was⟩,
    ⟨⟨D1, map_tn a1 t fun e => h.rest.m1 e, b1⟩, hn, ⟨D3, map_tn a3 t fun e => h.rest.m3 e.symm, b3⟩, own_tn h.rest.ch t fun g hg e => map_own a2 h.rest.ch hg e, fun f hf => ⟨(h.rest.fl f hf).1.tn t fun e => map_has a2 (h.rest.fl f hf).1 e, (h.rest.fl f hf).2.tn t fun g hg e => map_own a2 (h.rest.fl f hf).2 hg e⟩,
      h.rest.m1, h.rest.m2, h.rest.m3, h.rest.bi, h.rest.ri⟩⟩, rfl, fun b hb => .inl hb, t.up fun b hb => .inl (.inr (.inr (.inl hb)))⟩
theorem DAt.settled_ {w v : World} {k : Dk} {d : Dsk} (h : DAt w k d) {bN : Nat} (hb : w.heap.size ≤ bN) (hn : ∃ D, v.ownsMap Try.prog 9 (plainElem Try.prog 3) bN d.sure.length D ∧ NM D d.sure) (t : Tn (fun x => x = k.p) w v) (ht : Has v k.p 62 (topA { k with bn := bN, co := none, cc := 0 } { d with names := d.sure, chg := [] })) :
    DRes w v k d { k with bn := bN, co := none, cc := 0 } { d with names := d.sure, chg := [] } := by
  have hpn := h.rest.top_ne h.top
  have hall := h.rest.tn t (fun b hb => by subst hb; exact hpn)
  have l1 : k.bs < w.heap.size := h.rest.lt (.inr (.inl rfl))
  have l2 : k.bf < w.heap.size := h.rest.lt (.inr (.inr (.inl rfl)))
  refine ⟨⟨ht, ⟨h.arm.lo, h.arm.hi, h.arm.dI, h.arm.fI, h.arm.dn, h.arm.fl, h.arm.was⟩, ⟨hn, hall.ms, hall.mf, World.ownsRow_nil _ _ _ _, hall.fl, (by show bN ≠ k.bs; omega), (by show bN ≠ k.bf; omega), h.rest.m3, h.rest.bi, h.rest.ri⟩⟩, rfl, fun b hx => ?_, t.up fun b hb => .inl (.inl hb)⟩
  rcases hx with hx | hx | hx | hx | hx | hx
  · exact .inl (.inl hx)
  · exact .inr (by rw [hx]; exact hb)
  · exact .inl (.inr (.inr (.inl hx)))
  · exact .inl (.inr (.inr (.inr (.inl hx))))
  · cases hx
  · exact .inl (.inr (.inr (.inr (.inr (.inr hx)))))
set_option maxRecDepth 100000 in
set_option maxHeartbeats 8000000 in
theorem dsettle_c {w : World} {k : Dk} {d : Dsk} (h : DAt w k d) (ho : DOl d) (hs : SmD d) {n : Nat} (hn : n ≤ d.chg.length) :
    Calls Try.prog 37 #[.pointer (some ⟨k.p, 0, none⟩), .int .i64 (n : Nat)] w fun e w' => e = .returned (.tuple #[]) ∧ ∃ k', DRes w w' k d k' (settleL d n) := by
  have HA := hid h
  have HO := hid ho
  have HS := hid hs
  have HNL := hid hn
  have hcl := hs.chg
  obtain ⟨ao, c0, ev, hlc, hls, _⟩ := LsT.of_own (enc := encG) encG_len h.rest.ch
  have ev : Value.slice k.co d.chg.length k.cc = .slice ao d.chg.length c0 := ev
  injection ev with ev1 _ ev3
  subst ev1 ev3
  obtain ⟨-, -, -, c3, -⟩ := h.cells
  obtain ⟨p, ep⟩ : ∃ p, k.p = p := ⟨_, rfl⟩
  obtain ⟨bs, es⟩ : ∃ p, k.bs = p := ⟨_, rfl⟩
  have EP := hid (And.intro ep es)
  unfold chV at c3
  obtain ⟨co, eco⟩ : ∃ x, k.co = x := ⟨_, rfl⟩
  obtain ⟨cc, ecc⟩ : ∃ x, k.cc = x := ⟨_, rfl⟩
  obtain ⟨L, eL⟩ : ∃ x, d.chg.length = x := ⟨_, rfl⟩
  rw [ep, eco, ecc, eL] at c3
  rw [ecc, eL] at hlc
  rw [eL] at hn hcl
  have HLS := hid (eco ▸ hls)
  have HCO := hid (And.intro eco ecc)
  have EL := hid eL
  have hcm : cc ≤ 9223372036854775807 := by
    rcases h.rest.ch.2 with ⟨e, h0⟩ | ⟨g, cap, cur, e, _, _, h3, h4, _⟩
    · have e : Value.slice k.co d.chg.length k.cc = .slice none 0 0 := e
      injection e with _ _ e; omega
    · have e : Value.slice k.co d.chg.length k.cc = _ := e
      injection e with _ _ e; unfold maxLen at h4; omega
  rw [ep]
  clear h ho hs ep es eco ecc eL hls
  go_enter Try.func37, Try.ntmps37
  go_upto_region 1 with fail
  go_loopg [13] n (fun g i wx => ∃ j : Nat, j + g = n ∧ i = .int .i64 (j : Nat) ∧ Hid (DRes w wx k d k { d with sure := foldT d j })) 
  case atStart => exact ⟨0, by omega, by first | rfl | trivial, by rw [foldT_zero]; exact DRes.rfl_ HA.out⟩
  case round =>
    obtain ⟨j, hj, rfl, HB⟩ := hrel
    by_cases hjn : j < n
    · have hjl : j < d.chg.length := by have := EL.out; omega
      obtain ⟨c, ec⟩ : ∃ c, d.chg[j] = c := ⟨_, rfl⟩
      have hc : d.chg[j]? = some c := by rw [List.getElem?_eq_getElem hjl, ec]
      have hmem : c ∈ d.chg := List.mem_of_getElem? hc
      obtain ⟨ao, c0, ev, _, hls, _⟩ := LsT.of_own (enc := encG) encG_len HB.out.at_.rest.ch
      have ev : Value.slice k.co d.chg.length k.cc = .slice ao d.chg.length c0 := ev
      injection ev with ev1 _ ev3
      obtain ⟨b, off, eco2, hbl, hls⟩ := hls (by show 0 < d.chg.length; omega)
      have eco : co = some ⟨b, off, none⟩ := by rw [← HCO.out.1, ev1, eco2]
      subst eco
      have hel := hls j c hc
      have e0 := hel 0 (.string c.fr) rfl
      have e1 := hel 1 (.string c.to) rfl
      have e2 := hel 2 (.int .i64 (c.f : Nat)) rfl
      have hf := HO.out.fold (n := j) (by omega)
      have hcf : c.fr.size ≤ maxLen := by have := HO.out.cf c hmem; unfold maxLen; omega
      have hcn : c.f ≤ 1073741824 := by have := HO.out.cn c hmem; have := HS.out.next; omega
      have HDO := hid (fun (v : World) (D : DataW Unit) (hv : v.ownsMap Try.prog 9 (plainElem Try.prog 3) bs (foldT d j).length D) (hm : NM D (foldT d j)) => ddo_c (c := c) hv hm hf.1 (HO.out.cz c hmem) hcf hcn (Nat.le_trans hf.2.2 HS.out.next))
      have HNX := hid (foldT_succ hc)
      obtain ⟨F, T, i⟩ := c
      simp only at e0 e1 e2 HDO
      have hpw : wr.cell? ⟨p, 2, none⟩ = some (.map (some bs)) := by
        have := HB.out.at_.cells.2.2.1
        rw [show k.p = p from EP.out.1, show k.bs = bs from EP.out.2] at this
        exact this
      rw [Nat.add_zero] at e0
      clear hls hel ev ev1 ev3 eco2 hc ec hmem hf hcf hcn hbl
      obtain ⟨G, eG⟩ : ∃ G, wr.heap.size = G := ⟨_, rfl⟩
      have HW1 : Hid (DRes w (wr.alloc (.cells #[.string F, .string T, .int .i64 (i : Nat)] 89)) k d k { d with sure := foldT d j }) := HB.out.then_ (DRes.below HB.out.at_ (below_new wr _))
      have EG := hid eG
      have b0 : (wr.alloc (.cells #[.string F, .string T, .int .i64 (i : Nat)] 89)).cell? ⟨G, 0, none⟩ = some (.string F) := by rw [← eG, (has_new wr _ _).at_ 0]; rfl
      have b1 : (wr.alloc (.cells #[.string F, .string T, .int .i64 (i : Nat)] 89)).cell? ⟨G, 1, none⟩ = some (.string T) := by rw [← eG, (has_new wr _ _).at_ 1]; rfl
      have b2 : (wr.alloc (.cells #[.string F, .string T, .int .i64 (i : Nat)] 89)).cell? ⟨G, 2, none⟩ = some (.int .i64 (i : Nat)) := by rw [← eG, (has_new wr _ _).at_ 2]; rfl
      have a1 : (wr.alloc (.cells #[.string F, .string T, .int .i64 (i : Nat)] 89)).cell? ⟨p, 2, none⟩ = some (.map (some bs)) := Below.reads (below_new wr _) hpw
      go_upto_region 3 with fail
      try rw [eG]
      obtain ⟨W1, eW⟩ : ∃ W1, wr.alloc (.cells #[.string F, .string T, .int .i64 (i : Nat)] 89) = W1 := ⟨_, rfl⟩
      rw [eW] at HW1 b0 b1 b2 a1
      try rw [eW]
      clear eW eG e0 e1 e2 hpw
      refine reg_below_tail 5 (by kernel_rfl) (by kernel_rfl) ?_
      intro T1 hT fw hf
      have x0 := hf.reads b0
      have x1 := hf.reads b1
      have x2 := hf.reads b2
      have y1 := hf.reads a1
      simp only [List.take_succ_cons, List.take_zero]
      repeat (go_big_quiet_step (fail))
      refine wpQuiet_nil ?_
      intro w2 h2
      have k2 := hf.here h2
      have HW2 := hid (HW1.out.then_ (DRes.below HW1.out.at_ k2))
      obtain ⟨D, hown, hmap⟩ := HW2.out.at_.rest.ms
      rw [show k.bs = bs from EP.out.2] at hown
      have HC := hid (HDO.out w2 D hown hmap)
      clear x0 x1 x2 y1 hf h2 k2 hown hmap HDO b0 b1 b2 a1
      simp only [List.drop_succ_cons, List.drop_zero]
      go_wp2_with fail
      refine HC.out.mono ?_
      rintro e w3 ⟨rfl, hex, ht⟩
      have HR3 := hid (HW2.out.then_ (HW2.out.at_.sure_ (by rw [EP.out.2]; exact hex) (by rw [EP.out.2]; exact ht)))
      clear HW2 HW1 HC hex ht
      go_wp2_with fail
      go_roundg (n - j - 1)
      case rel => exact ⟨j + 1, by omega, by go_num, by rw [HNX.out]; exact HR3.out⟩
      case measure => omega
    · have e : j = n := by omega
      subst e
      have hf := HO.out.fold (n := j) HNL.out
      obtain ⟨-, -, c2, -⟩ := HB.out.at_.cells
      rw [show k.p = p from EP.out.1, show k.bs = bs from EP.out.2] at c2
      obtain ⟨D, hown, hmap⟩ := HB.out.at_.rest.ms
      rw [show k.bs = bs from EP.out.2] at hown
      have HCL := hid (cloneM_c hown)
      have HM := hid hmap
      have HF := hid hf
      clear hown hmap hf
      go_wp2_with fail
      refine HCL.out.mono ?_
      rintro e w5 ⟨rfl, hown5, _, hb5⟩
      have hH5 : Has w5 p 62 (topA k { d with sure := foldT d j }) := by
        have h1 := HB.out.at_.top
        rw [show k.p = p from EP.out.1] at h1
        exact h1.tn (Below.tn (X := NilB) hb5) (fun h => h)
      have y1 : w5.cell? ⟨p, 1, none⟩ = some (.map (some k.bn)) := hH5.at_ 1
      have y3 : w5.cell? ⟨p, 3, none⟩ = some (.slice co L cc) := by
        rw [← HCO.out.1, ← HCO.out.2, ← EL.out]; exact hH5.at_ 3
      have f1 := hH5.free 1
      have f3 := hH5.free 3
      obtain ⟨bq, eq⟩ : ∃ b, k.bn = b := ⟨_, rfl⟩
      rw [eq] at y1
      have HH5 := hid hH5; have HOW := hid hown5; have HB5 := hid hb5
      obtain ⟨bN, eN⟩ : ∃ b, wr.heap.size = b := ⟨_, rfl⟩
      have EN := hid eN
      rw [eN] at HOW ⊢
      clear hH5 hown5 hb5 eq eN c2
      go_upto_region 7 with fail
      obtain ⟨W7, eW7⟩ : ∃ W7, (w5.setCell ⟨p, 1, none⟩ (.map (some bN))).setCell ⟨p, 3, none⟩ (.slice none 0 0) = W7 := ⟨_, rfl⟩
      rw [eW7]
      have HR7 : Hid (DRes w W7 k d { k with bn := bN, co := none, cc := 0 } { d with names := foldT d j, sure := foldT d j, chg := [] }) := by
        have t7 : Tn (fun b => b = p) wr W7 := by
          rw [← eW7]
          exact ((Below.tn HB5.out).then0 (tn_put w5 ⟨p, 1, none⟩ _)).then0 (tn_put _ ⟨p, 3, none⟩ _)
        have hpN : ¬ (bN = p) := by
          have h1 : k.p < wr.heap.size := HB.out.at_.top.here
          rw [EN.out, EP.out.1] at h1
          omega
        refine HB.out.then_ (HB.out.at_.settled_ (bN := bN) (Nat.le_of_eq EN.out) ⟨D, ?_, HM.out⟩ (by rw [EP.out.1]; exact t7) ?_)
        · rw [← eW7]
          exact map_tn (map_tn HOW.out (tn_put w5 ⟨p, 1, none⟩ _) (fun e => hpN e)) (tn_put _ ⟨p, 3, none⟩ _) (fun e => hpN e)
        · rw [EP.out.1, ← eW7]
          exact (HH5.out.put 1 (.map (some bN))).put 3 (.slice none 0 0)
      clear eW7 y1 y3 f1 f3
      obtain ⟨kN, ekN⟩ : ∃ kN : Dk, kN = { k with bn := bN, co := none, cc := 0 } := ⟨_, rfl⟩
      rw [← ekN] at HR7
      have hpk : kN.p = p := by rw [ekN]; exact EP.out.1
      have HFG := hid (dforget_c HR7.out.at_ HF.out.1 HO.out.ok.ids HF.out.2.1.there HO.out.ok.sure (fun f hf => Nat.le_trans (HO.out.ok.next f hf) HS.out.next) (Nat.le_trans HO.out.idle HS.out.next) HS.out.len)
      rw [hpk] at HFG
      have HFG2 : Hid (Calls Try.prog 61 #[.pointer (some ⟨p, 0, none⟩)] W7 fun e w' => e = .returned (.tuple #[]) ∧ ∃ k', DRes W7 w' kN { d with names := foldT d j, sure := foldT d j, chg := [] } k' (settleL d j)) := HFG.out
      clear HFG ekN hpk
      go_wp2_with fail
      refine HFG2.out.mono ?_
      rintro e w8 ⟨rfl, k8, hR8⟩
      have hR8 := hid hR8
      go_wp2_with fail
      exact void_endD rfl rfl ⟨rfl, k8, HR7.out.then_ hR8.out⟩
end Go.Proofs.Ytdaelblapgcljaa.Fx
