/- Package disk: cut, its walk. -/
import Derived.Test.YtdaelblapgcljaaDkT
namespace Go.Proofs.Ytdaelblapgcljaa.Fx
open Go.ChangeShapes Go.WideShapes Go.ChangeAt Go.RowKit Go.Maps
set_option linter.unusedVariables false

set_option maxRecDepth 100000 in
set_option maxHeartbeats 8000000 in
theorem dcut_c {w : World} {k : Dk} {d : Dsk} (h : DAt w k d) (ho : DOl d) (hs : SmD d) {kl : List Int} {ak : Option Addr} {ck : Nat} (hk : InK w ak kl) (hkb : 0 < kl.length → ∀ b off, ak = some ⟨b, off, none⟩ → ¬ Foot k d b) (hkc : kl.length ≤ ck) (hcm : ck ≤ 9223372036854775807) (hki : ∀ x ∈ kl, -9223372036854775808 ≤ x ∧ x ≤ 9223372036854775807) :
    Calls Try.prog 36 #[.pointer (some ⟨k.p, 0, none⟩), .slice ak kl.length ck] w fun e w' => e = .returned (.tuple #[]) ∧ ∃ k', DRes w w' k d k' { d with files := cutL d.files kl } := by
  have HA := hid h; have HO := hid ho; have HS := hid hs; have HK := hid hk; have HKB := hid hkb; have HKI := hid hki
  have hfl : d.files.length ≤ 1073741824 := Nat.le_trans ho.idle hs.next
  obtain ⟨-, -, -, -, c4, -⟩ := h.cells
  obtain ⟨p, ep⟩ : ∃ p, k.p = p := ⟨_, rfl⟩
  obtain ⟨bf, ef⟩ : ∃ p, k.bf = p := ⟨_, rfl⟩
  have EP := hid (And.intro ep ef)
  rw [ep, ef] at c4
  obtain ⟨n, en⟩ : ∃ n, d.files.length = n := ⟨_, rfl⟩
  have EN := hid en
  rw [en] at hfl
  rw [ep]
  obtain ⟨W1, eW1⟩ : ∃ W1, W1 = w.alloc (.cells #[.map (some bf)] 59) := ⟨_, rfl⟩
  have HW1 : Hid (DRes w W1 k d k d) := by unfold Hid; rw [eW1]; exact DRes.below h (below_new w _)
  obtain ⟨D, hown, hmap⟩ := HW1.out.at_.rest.mf
  rw [ef] at hown
  have HSO := hid (sorted_c hown hmap ho.ok.ids (by rw [en]; exact hfl) (B := w.heap.size) (by rw [eW1, (has_new w _ _).at_ 0]; rfl))
  rw [en] at HSO
  have EW1 := hid eW1
  obtain ⟨m, em⟩ : ∃ m, kl.length = m := ⟨_, rfl⟩
  have EM := hid em
  rw [em] at hkc ⊢
  clear h ho hs hk hkb hki ep ef en hown hmap eW1 em
  go_enter Try.func36, Try.ntmps36
  go_wp2_with fail
  refine (keys_c (some bf) w).mono ?_
  rintro e w1 ⟨rfl, rfl⟩
  rw [← EW1.out]
  go_wp2_with fail
  refine HSO.out.mono ?_
  rintro e w2 ⟨v, rfl, hrow, _, hb2⟩
  have hrow' := hrow
  rw [← EN.out] at hrow'
  obtain ⟨ao, cs, rfl, hcs, hcells⟩ := cell_ids hrow'
  have HCE := hid hcells
  rw [EN.out] at hcs
  have HR2 := hid (HW1.out.then_ (DRes.below HW1.out.at_ hb2))
  have HNF : Hid (∀ i f, d.files[i]? = some f → ∃ g, ao = some ⟨g, 0, none⟩ ∧ ¬ Foot k d g ∧ g < w2.heap.size ∧ w2.cell? ⟨g, i, none⟩ = some (.int .i64 (f.id : Nat))) := fun i f hi => by
    obtain ⟨g, e, h1, h2, h3⟩ := hcells i f hi
    refine ⟨g, e, fun hf => ?_, h2, h3⟩
    have := HW1.out.at_.lt hf
    omega
  rw [EN.out]
  clear hrow hrow' hb2 hcells HCE c4
  go_upto_region 1 with fail
  go_loopg [1, 14] n (fun g kv i wx => ∃ (j : Nat) (ks : List Int) (aq : Option Addr) (cq q : Nat), j + g = n ∧ i = .int .i64 (j : Nat) ∧ kv = .slice aq q cq ∧ q ≤ cq ∧ cq ≤ 9223372036854775807 ∧ Hid (ks.length = q ∧ CutSt w2 k d kl wx j aq ks))
  case atStart =>
    refine ⟨0, kl, ak, ck, m, by omega, by first | rfl | trivial, rfl, hkc, hcm, EM.out, ⟨[], d.files, k, rfl, rfl, rfl, rfl, ?_, rfl⟩, HK.out.tn HR2.out.tn fun hn b off e hf => HKB.out hn b off e hf, fun hn b off e => ⟨HKB.out hn b off e, ?_⟩, HKI.out⟩
    · exact DRes.rfl_ HR2.out.at_
    · obtain ⟨b', off', e', hc⟩ := HK.out hn
      rw [e'] at e; cases e
      exact Nat.lt_of_lt_of_le (World.block_lt_of_cell? (a := ⟨b, off + 0, none⟩) w (hc 0 hn)) HR2.out.tn.size
  case round =>
    obtain ⟨j, ks, aq, cq, q, hj, rfl, rfl, hqc, hcq, HB⟩ := hrel
    by_cases hjn : j < n
    · have hjl : j < d.files.length := by have := EN.out; omega
      obtain ⟨f, ef⟩ : ∃ f, d.files[j] = f := ⟨_, rfl⟩
      have hf : d.files[j]? = some f := by rw [List.getElem?_eq_getElem hjl, ef]
      have hfm : f ∈ d.files := List.mem_of_getElem? hf
      obtain ⟨gs, eao, hgs1, hgs2, hgs3⟩ := HNF.out j f hf
      subst eao
      obtain ⟨dn, td, kr, hl, htd, hcut, hids, hD, hbf⟩ := HB.out.2.st
      have htd2 : td = f :: d.files.drop (j + 1) := by rw [← htd, List.drop_eq_getElem_cons hjl, ef]
      obtain ⟨td', etd⟩ : ∃ td', d.files.drop (j + 1) = td' := ⟨_, rfl⟩
      rw [etd] at htd2
      subst htd2
      have hall : ((dn ++ f :: td').map (·.id)) = d.files.map (·.id) := by
        rw [List.map_append, hids, ← htd, ← List.map_append, List.take_append_drop]
      have hup : ((dn ++ f :: td').map (·.id)).Pairwise (· < ·) := by rw [hall]; exact HO.out.ok.ids
      have hfd : f ∈ dn ++ f :: td' := by simp
      -- nothing of the numbers, and none of those of kept, is the disk's
      have hno : ∀ b, ¬ Foot k d b → b < w2.heap.size → ¬ Foot kr { d with files := dn ++ f :: td' } b := fun b h1 h2 h3 => by
        rcases hD.sub b h3 with h | h
        · exact h1 h
        · omega
      have ci : wr.cell? ⟨gs, j, none⟩ = some (.int .i64 (f.id : Nat)) := hD.tn.cell hgs3 hgs1
      obtain ⟨-, -, -, -, c4, -⟩ := hD.at_.cells
      have hp : kr.p = p := hD.p.trans EP.out.1
      rw [hp, hbf, EP.out.2] at c4
      have l2 := hD.at_.rest.getf (i := f.id) (by have := HO.out.ok.next f hfm; have := HS.out.next; omega)
      have hpt : ptrF kr { d with files := dn ++ f :: td' } f.id = .pointer (some ⟨kr.bl f.id, 0, none⟩) := by
        unfold ptrF; rw [show fileD (dn ++ f :: td') f.id = some f from file_of hup hfd]
      rw [hpt, hbf, EP.out.2] at l2
      obtain ⟨fa, fc, fro, hH, hO, hfc1, hfc2, hfn⟩ := hD.at_.rest.file (f := f) hfd
      obtain ⟨g, eg⟩ : ∃ g, kr.bl f.id = g := ⟨_, rfl⟩
      rw [eg] at l2 hH
      have hsl := HO.out.ok.sure f hfm
      have hlen : f.b.length ≤ 1073741824 := Nat.le_trans (len_le hfm) HS.out.len
      have HFL := hid (fun (v : World) (hv : Has v g 86 #[.slice fa f.b.length fc, .int .i64 (f.sure : Nat)]) => floose_c hv (by omega) (by omega) (by omega))
      obtain ⟨L, eL⟩ : ∃ L, f.b.length = L := ⟨_, rfl⟩
      obtain ⟨S, eS⟩ : ∃ S, f.sure = S := ⟨_, rfl⟩
      obtain ⟨i, ei⟩ : ∃ i, f.id = i := ⟨_, rfl⟩
      have ELS := hid (And.intro eL (And.intro eS ei))
      rw [eL, eS] at hH HFL hsl
      rw [eL] at hlen hfc1 hfn hO
      rw [ei] at ci l2
      obtain ⟨N, eN⟩ : ∃ N : Int, (L : Int) - (S : Int) = N := ⟨_, rfl⟩
      rw [eN] at HFL
      have ENN := hid eN
      have HHF := hid hH; have HOB := hid hO; have HDR := hid hD; have HNO := hid hno; have HUP := hid hup; have HFD := hid hfd; have HFM := hid hfm
      have HEG := hid (And.intro eg fro); have HCUT := hid hcut; have HTD := hid (And.intro hl (And.intro etd hall)); have HBF := hid hbf; have HIDS := hid hids; have HGS := hid (And.intro hgs1 (And.intro hgs2 hf))
      have HF0 := hid (HFL.out wr hH)
      clear ef hf hfm hgs1 hgs2 hgs3 hl htd hcut hids hD hbf hall hup hfd hno hpt fro hH hO eg eL eS ei eN etd
      go_wp2_with fail
      refine HF0.out.mono ?_
      rintro e v8 ⟨rfl, mm, rfl⟩
      have hbv := drewN_below wr mm
      obtain ⟨V, eV⟩ : ∃ V, wr.drewN mm = V := ⟨_, rfl⟩
      rw [eV] at hbv ⊢
      have HV := hid (HDR.out.then_ (DRes.below HDR.out.at_ hbv))
      have HIV : Hid (InK V aq ks) := HB.out.2.ik.tn (Below.tn (X := NilB) hbv) (fun _ _ _ _ h => h)
      have hHV : Has V g 86 #[.slice fa L fc, .int .i64 (S : Nat)] := HHF.out.tn (Below.tn (X := NilB) hbv) (fun h => h)
      have hOV : OB V 0 (.slice fa L fc) L (gb f.b) := HOB.out.tn (Below.tn (X := NilB) hbv) (fun _ _ h => h)
      clear eV hbv ci c4 l2
      by_cases hloose : L = S
      · have q1 : (N == 0) = true := by have := ENN.out; simp; omega
        have hloose := hid hloose
        clear hHV hOV
        go_wp2_with fail
        go_roundg (n - j - 1)
        case rel =>
          have hc1 : cut1 f ks = f := by unfold cut1; rw [if_pos (by rw [ELS.out.1, ELS.out.2.1]; exact hloose.out)]
          have hc2 : cutR f ks = ks := by unfold cutR; rw [if_pos (by rw [ELS.out.1, ELS.out.2.1]; exact hloose.out)]
          have hcc : cutL (f :: td') ks = f :: cutL td' ks := by show cut1 f ks :: cutL td' (cutR f ks) = _; rw [hc1, hc2]
          have hfg := HGS.out.2.2
          refine ⟨j + 1, ks, aq, cq, q, by omega, by go_num, rfl, hqc, hcq, HB.out.1, ⟨dn ++ [f], td', kr, ?_, HTD.out.2.1, ?_, ?_, ?_, HBF.out⟩, HIV.out, HB.out.2.ob, HB.out.2.il⟩
          · rw [List.length_append, HTD.out.1]; rfl
          · rw [HCUT.out, hcc, List.append_assoc]; rfl
          · rw [List.map_append, HIDS.out, List.take_add_one, hfg, List.map_append]; rfl
          · rw [List.append_assoc]; exact HV.out
        case measure => omega
      · have q1 : (N == 0) = false := by have := ENN.out; simp; omega
        have HLO := hid hloose
        have HHVh := hid hHV; have HOVh := hid hOV
        clear hloose
        cases ks with
        | nil =>
          have hq0 : q = 0 := HB.out.1.symm
          subst hq0
          have HH6 := HHVh
          have HO6 := HOVh
          have HSN : Hid (S ≤ L ∧ S ≤ L) := ⟨hsl, hsl⟩
          have HT6 : Hid (Tn (fun b => b = g) V V) := Tn.rfl_ _ _
          have HSL : Hid (S + limK f [] = S) := by unfold Hid limK; simp only [List.headD_nil]; rw [ELS.out.1, ELS.out.2.1]; omega
          have HI6 : Hid (InK V aq []) := HIV.out
          have HB6 : Hid ((0 < ([] : List Int).length → ∀ b off, aq = some ⟨b, off, none⟩ → ¬ Foot k d b ∧ b < w2.heap.size) ∧ ([] : List Int).length = 0 ∧ ∀ x ∈ ([] : List Int), -9223372036854775808 ≤ x ∧ x ≤ 9223372036854775807) := ⟨fun h => absurd h (by simp), rfl, fun x hx => by cases hx⟩
          have hne : fa ≠ none := fun e => by have h0 := hfn e; have h1 := HLO.out; omega
          have hby : By V fa S (gb f.b) := (HO6.out.by_).take (by have := HSN.out; omega)
          have HCL := hid (fun (u : World) (hu : Below V.heap.size V u) => clone8_c (c := fc) (hby.bel hu) (by have := HSN.out; omega) (fun e => absurd e hne))
          have c0 : V.cell? ⟨g, 0, none⟩ = some (.slice fa L fc) := HH6.out.at_ 0
          have c1 : V.cell? ⟨g, 1, none⟩ = some (.int .i64 (S : Nat)) := HH6.out.at_ 1
          have hsn := HSN.out
          clear hby
          go_upto_region 8 with fail
          refine MB.reg_mk (alCl S (gb f.b)) 11 [0, 1, 2, 3, 4, 5, 6, 7, 8, 9, 10] [0, 1, 2, 3, 4, 5, 6, 7, 8, 9] [10] [] (fun _ => []) (val := valCl) (by kernel_rfl) (by kernel_rfl) (fun p hp => absurd hp (by simp)) ?_
          refine MB.can_class (rest := [10]) [0, 1, 2, 3, 4, 5, 6, 7, 8, 9] [] 59 (alCl_lasts _ _) (MB.any_class _) (by kernel_rfl) rfl (by kernel_rfl) (by kernel_rfl) ?_
          apply Exists.intro
          refine ⟨?r1, ?r2⟩
          case r1 =>
            intro Ty hTT fw hf _
            have x0 := hf.reads c0
            have x1 := hf.reads c1
            change wpQuiet _ _ _ _ [_, _, _, _, _, _, _, _, _, _] _
            repeat (go_big_quiet_step (fail))
            exact wpQuiet_nil rfl
          refine MB.can_mk 10 55 _ rfl rfl rfl rfl ?m2 fun q2 q3 => ?n2
          case m2 =>
            intro G' u _ hu
            rw [show (execOp _ _).run Try.prog u = .ok (.enter 45 #[.slice fa S fc]) u by kernel_rfl]
            show Calls _ _ _ _ _
            refine (HCL.out u hu.1).mono ?_
            rintro e v ⟨vv, rfl, hO, hB⟩
            exact ⟨u.heap.size, ⟨v.heap.size, vv⟩, rfl, hu.next (alCl_lasts _ _) hB (Nat.le_refl _) hB.size (Nat.le_refl _) ⟨hO, fun b hb => own_lt hO hb⟩⟩
          rw [show valCl 10 q2 q3 = q3.v from rfl]
          simp only [Act.put, List.setIfInBounds_toArray, List.set_cons_succ, List.set_cons_zero]
          intro A hu
          obtain ⟨hg7, hg8, hg9, h3, h3'⟩ := hu.2.1 10 (q2, q3) (by unfold MB.upd; simp)
          have h3 : OB A q2 q3.v S (gb f.b) := h3
          obtain ⟨ao2, c2, ev2, _⟩ := h3.shape
          rw [ev2] at h3 ⊢
          have HO3 := hid h3
          have HGE := hid hg7
          have HBA := hid hu.1
          have HHA : Hid (Has A g 86 #[.slice fa L fc, .int .i64 (S : Nat)]) := HH6.out.tn (Below.tn (X := NilB) hu.1) (fun h => h)
          have z0 : A.cell? ⟨g, 0, none⟩ = some (.slice fa L fc) := HHA.out.at_ 0
          have f0 := HHA.out.free 0
          clear hu h3 h3' hg7 hg8 hg9 ev2 c0 c1
          simp only [List.drop_succ_cons, List.drop_zero]
          go_wp2_with fail
          refine NoPanic.normal ?_
          go_wp2_with fail
          go_roundg (n - j - 1)
          case rel =>
            obtain ⟨W9, eW9⟩ : ∃ W9, A.setCell ⟨g, 0, none⟩ (.slice ao2 S c2) = W9 := ⟨_, rfl⟩
            rw [eW9]
            have hid1 : kr.bl f.id = g := HEG.out.1
            have hSl : S ≤ f.b.length := by rw [ELS.out.1]; exact hsn.2
            have hH9 : Has W9 g 86 #[.slice ao2 S c2, .int .i64 (S : Nat)] := by rw [← eW9]; exact HHA.out.put 0 _
            have hO9 : OB W9 0 (.slice ao2 S c2) S (gb f.b) := by
              rw [← eW9]
              refine own_base0 (HO3.out.tn (tn_put A ⟨g, 0, none⟩ _) fun x hx e => ?_)
              subst e
              obtain ⟨cur, hh⟩ := own_ty HO3.out hx
              exact absurd (ty_eq hh HHA.out) (by decide)
            have htk : (f.b.take S).length = S := by rw [List.length_take]; omega
            have hput := put_mid HUP.out (fun x => { x with b := f.b.take S, sure := S })
            have hD9 : DRes V W9 kr { d with files := dn ++ f :: td' } (kr.row f.id (.slice ao2 S c2)) { d with files := dn ++ ⟨f.id, f.b.take S, S⟩ :: td' } := by
              refine HV.out.at_.putf HUP.out HFD.out (g := fun x => { x with b := f.b.take S, sure := S }) (fun _ => rfl) (x := .slice ao2 S c2) (Y := fun b => b = g) ?_ (fun b hb => .inl (hb.trans hid1.symm)) ?_ ?_ ?_ ?_
              · rw [← eW9]
                exact (HT6.out.then0 (Below.tn HBA.out)).then0 (tn_put A ⟨g, 0, none⟩ _)
              · rw [hid1]; exact hH9
              · show OB W9 0 _ (f.b.take S).length (gb (f.b.take S))
                rw [htk]
                refine hO9.congr fun x hx => ?_
                unfold gb
                rw [List.getD_eq_getElem?_getD, List.getD_eq_getElem?_getD, List.getElem?_take, if_pos hx]
              · refine .inr fun b hb => ?_
                have hlow : q2 ≤ b := by
                  rcases HO3.out.2 with ⟨e, _⟩ | ⟨g', cap, cur, e, hb', _⟩
                  · rw [e] at hb; cases hb
                  · rw [e] at hb; cases hb; exact hb'
                exact Nat.le_trans (Nat.le_trans HT6.out.size HGE.out) hlow
              · show _ = Dsk.mk _ _ _ _ _ (putD (dn ++ f :: td') f.id _) _ _ _ _
                rw [hput]
            have hc1 : cut1 f [] = ⟨f.id, f.b.take S, S⟩ := by unfold cut1; rw [if_neg (by rw [ELS.out.1, ELS.out.2.1]; exact HLO.out), ELS.out.2.1, HSL.out]
            have hc2 : cutR f [] = [] := by unfold cutR; rw [if_neg (by rw [ELS.out.1, ELS.out.2.1]; exact HLO.out)]; rfl
            have hcc : cutL (f :: td') [] = ⟨f.id, f.b.take S, S⟩ :: cutL td' [] := by show cut1 f [] :: cutL td' (cutR f []) = _; rw [hc1, hc2]
            have hfg := HGS.out.2.2
            have hIK : InK W9 aq [] := by
              refine HI6.out.tn (X := fun b => b = g) ?_ fun hn b off e hb => ?_
              · rw [← eW9]; exact (Below.tn HBA.out).then0 (tn_put A ⟨g, 0, none⟩ _)
              · obtain ⟨h1, h2⟩ := HB6.out.1 hn b off e
                exact HNO.out b h1 h2 (.inr (.inr (.inr (.inr (.inr ⟨f, HFD.out, .inl (hb.trans hid1.symm)⟩)))))
            refine ⟨j + 1, [], aq, cq, 0, by omega, by go_num, rfl, by omega, by omega, HB6.out.2.1, ⟨dn ++ [⟨f.id, f.b.take S, S⟩], td', kr.row f.id (.slice ao2 S c2), ?_, HTD.out.2.1, ?_, ?_, ?_, HBF.out⟩, hIK, HB6.out.1, HB6.out.2.2⟩
            · rw [List.length_append, HTD.out.1]; rfl
            · rw [HCUT.out, hcc, List.append_assoc]; rfl
            · rw [List.map_append, HIDS.out, List.take_add_one, hfg, List.map_append]; rfl
            · rw [List.append_assoc]; exact HV.out.then_ hD9
          case measure => omega
        | cons x t =>
          have hq0 : t.length + 1 = q := HB.out.1
          obtain ⟨b, off, eaq, hc⟩ := HIV.out (by simp)
          subst eaq
          have k0 : V.cell? ⟨b, off, none⟩ = some (.int .i64 x) := by have := hc 0 (by simp); simpa using this
          have hxI := HB.out.2.il x (by simp)
          have q2 : decide ((q : Int) > 0) = true := decide_eq_true (by omega)
          obtain ⟨M, eM⟩ : ∃ M : Int, min (max x 0) N = M := ⟨_, rfl⟩
          have hlim : ∀ w : World, Calls Try.prog 38 #[.int .i64 x, .int .i64 N] w fun e w' => e = .returned (.int .i64 M) ∧ w = w' := fun w => by rw [← eM]; exact dlimit_c
          have hN := ENN.out
          have hM : 0 ≤ M ∧ M ≤ N := by omega
          obtain ⟨Sn, eSn⟩ : ∃ Sn : Nat, S + M.toNat = Sn := ⟨_, rfl⟩
          have hSM : (S : Int) + M = (Sn : Int) := by omega
          have HSN : Hid (S ≤ Sn ∧ Sn ≤ L) := ⟨by omega, by omega⟩
          have HSL : Hid (S + limK f (x :: t) = Sn) := by unfold Hid limK; simp only [List.headD_cons]; rw [ELS.out.1, ELS.out.2.1, hN, eM]; exact eSn
          have z1 : V.cell? ⟨g, 1, none⟩ = some (.int .i64 (S : Nat)) := HHVh.out.at_ 1
          have HLIM := hid hlim
          have HM := hid (And.intro eM eSn)
          have hN' := hid hN
          have HOB2 := hid (HB.out.2.ob (by simp))
          have HIL2 := hid (fun y (hy : y ∈ t) => HB.out.2.il y (List.mem_cons_of_mem _ hy))
          clear hlim eM eSn hN hc hxI
          go_upto_region 6 with fail
          refine reg_below_tail 11 (by kernel_rfl) (by kernel_rfl) ?_
          intro Ty hTT fw hf
          have x0 := hf.reads z1
          have x1 := hf.reads k0
          have HLZ := hid (fun t => hf.drawn (x := t) (HFL.out (fw t) (HHVh.out.tn (Below.tn (X := NilB) (hf.1 t)) (fun h => h))))
          have HLI := hid (fun t => hf.same (x := t) (HLIM.out (fw t)))
          simp only [List.take_succ_cons, List.take_zero]
          repeat (go_big_quiet_step ((first | (go_at_call 59; with_reducible exact HLZ.out _) | (go_at_call 38; with_reducible exact HLI.out _))))
          refine wpQuiet_nil ?_
          intro w6 h6
          have k6 := hf.here h6
          have HH6b : Hid (Has w6 g 86 #[.slice fa L fc, .int .i64 (S : Nat)]) := HHVh.out.tn (Below.tn (X := NilB) k6) (fun h => h)
          have y1 : w6.cell? ⟨g, 1, none⟩ = some (.int .i64 (S : Nat)) := HH6b.out.at_ 1
          have f1 := HH6b.out.free 1
          have HK6 := hid k6
          clear x0 x1 HLZ HLI hf h6 z1 k0 k6
          simp only [List.drop_succ_cons, List.drop_zero]
          go_upto_region 8 with fail
          have wSn : wrap64 ((Sn : Nat) : Int) = (Sn : Nat) := wrapN (by have := HSN.out; omega)
          rw [wSn]
          clear wSn
          obtain ⟨aq', eaq'⟩ : ∃ aq', (if cq = 1 then some (⟨b, off, none⟩ : Addr) else some ⟨b, off + 1, none⟩) = aq' := ⟨_, rfl⟩
          rw [eaq']
          obtain ⟨V6, eV6⟩ : ∃ V6, w6.setCell ⟨g, 1, none⟩ (.int .i64 (Sn : Nat)) = V6 := ⟨_, rfl⟩
          rw [eV6]
          have HH6 : Hid (Has V6 g 86 #[.slice fa L fc, .int .i64 (Sn : Nat)]) := by unfold Hid; rw [← eV6]; exact HH6b.out.put 1 _
          have HT6 : Hid (Tn (fun b => b = g) V V6) := by unfold Hid; rw [← eV6]; exact (Below.tn HK6.out).then0 (tn_put w6 ⟨g, 1, none⟩ _)
          have HO6 : Hid (OB V6 0 (.slice fa L fc) L (gb f.b)) := by
            refine HOVh.out.tn HT6.out fun y hy e => ?_
            subst e
            obtain ⟨cur, hh⟩ := own_ty HOVh.out hy
            exact absurd (ty_eq hh HHVh.out) (by decide)
          have HI6 : Hid (InK V6 aq' t) := by
            refine InK.tn (X := fun b => b = g) (w := V) ?_ HT6.out fun hn b' off' e hb => ?_
            · rw [← eaq']
              split
              · intro hn; omega
              · exact InK.tail HIV.out
            · have : b' = b := by
                rw [← eaq'] at e
                split at e <;> (cases e; rfl)
              subst this
              obtain ⟨h1, h2⟩ := HOB2.out b' off rfl
              exact HNO.out b' h1 h2 (.inr (.inr (.inr (.inr (.inr ⟨f, HFD.out, .inl (hb.trans HEG.out.1.symm)⟩)))))
          have HB6 : Hid ((0 < t.length → ∀ b off, aq' = some ⟨b, off, none⟩ → ¬ Foot k d b ∧ b < w2.heap.size) ∧ t.length = q - 1 ∧ ∀ x ∈ t, -9223372036854775808 ≤ x ∧ x ≤ 9223372036854775807) := by
            refine ⟨fun hn b' off' e => ?_, by omega, HIL2.out⟩
            have : b' = b := by
              rw [← eaq'] at e
              split at e <;> (cases e; rfl)
            subst this
            exact HOB2.out b' off rfl
          clear eV6 eaq' y1 f1

          have hne : fa ≠ none := fun e => by have h0 := hfn e; have h1 := HLO.out; omega
          have hby : By V6 fa Sn (gb f.b) := (HO6.out.by_).take (by have := HSN.out; omega)
          have HCL := hid (fun (u : World) (hu : Below V6.heap.size V6 u) => clone8_c (c := fc) (hby.bel hu) (by have := HSN.out; omega) (fun e => absurd e hne))
          have c0 : V6.cell? ⟨g, 0, none⟩ = some (.slice fa L fc) := HH6.out.at_ 0
          have c1 : V6.cell? ⟨g, 1, none⟩ = some (.int .i64 (Sn : Nat)) := HH6.out.at_ 1
          have hsn := HSN.out
          clear hby
          refine MB.reg_mk (alCl Sn (gb f.b)) 11 [0, 1, 2, 3, 4, 5, 6, 7, 8, 9, 10] [0, 1, 2, 3, 4, 5, 6, 7, 8, 9] [10] [] (fun _ => []) (val := valCl) (by kernel_rfl) (by kernel_rfl) (fun p hp => absurd hp (by simp)) ?_
          refine MB.can_class (rest := [10]) [0, 1, 2, 3, 4, 5, 6, 7, 8, 9] [] 59 (alCl_lasts _ _) (MB.any_class _) (by kernel_rfl) rfl (by kernel_rfl) (by kernel_rfl) ?_
          apply Exists.intro
          refine ⟨?r11, ?r12⟩
          case r11 =>
            intro Ty hTT fw hf _
            have x0 := hf.reads c0
            have x1 := hf.reads c1
            change wpQuiet _ _ _ _ [_, _, _, _, _, _, _, _, _, _] _
            repeat (go_big_quiet_step (fail))
            exact wpQuiet_nil rfl
          refine MB.can_mk 10 55 _ rfl rfl rfl rfl ?m12 fun q2 q3 => ?n12
          case m12 =>
            intro G' u _ hu
            rw [show (execOp _ _).run Try.prog u = .ok (.enter 45 #[.slice fa Sn fc]) u by kernel_rfl]
            show Calls _ _ _ _ _
            refine (HCL.out u hu.1).mono ?_
            rintro e v ⟨vv, rfl, hO, hB⟩
            exact ⟨u.heap.size, ⟨v.heap.size, vv⟩, rfl, hu.next (alCl_lasts _ _) hB (Nat.le_refl _) hB.size (Nat.le_refl _) ⟨hO, fun b hb => own_lt hO hb⟩⟩
          rw [show valCl 10 q2 q3 = q3.v from rfl]
          simp only [Act.put, List.setIfInBounds_toArray, List.set_cons_succ, List.set_cons_zero]
          intro A hu
          obtain ⟨hg7, hg8, hg9, h3, h3'⟩ := hu.2.1 10 (q2, q3) (by unfold MB.upd; simp)
          have h3 : OB A q2 q3.v Sn (gb f.b) := h3
          obtain ⟨ao2, c2, ev2, _⟩ := h3.shape
          rw [ev2] at h3 ⊢
          have HO3 := hid h3
          have HGE := hid hg7
          have HBA := hid hu.1
          have HHA : Hid (Has A g 86 #[.slice fa L fc, .int .i64 (Sn : Nat)]) := HH6.out.tn (Below.tn (X := NilB) hu.1) (fun h => h)
          have z0 : A.cell? ⟨g, 0, none⟩ = some (.slice fa L fc) := HHA.out.at_ 0
          have f0 := HHA.out.free 0
          clear hu h3 h3' hg7 hg8 hg9 ev2 c0 c1
          simp only [List.drop_succ_cons, List.drop_zero]
          go_wp2_with fail
          refine NoPanic.normal ?_
          go_wp2_with fail
          go_roundg (n - j - 1)
          case rel =>
            obtain ⟨W9, eW9⟩ : ∃ W9, A.setCell ⟨g, 0, none⟩ (.slice ao2 Sn c2) = W9 := ⟨_, rfl⟩
            rw [eW9]
            have hid1 : kr.bl f.id = g := HEG.out.1
            have hSl : Sn ≤ f.b.length := by rw [ELS.out.1]; exact hsn.2
            have hH9 : Has W9 g 86 #[.slice ao2 Sn c2, .int .i64 (Sn : Nat)] := by rw [← eW9]; exact HHA.out.put 0 _
            have hO9 : OB W9 0 (.slice ao2 Sn c2) Sn (gb f.b) := by
              rw [← eW9]
              refine own_base0 (HO3.out.tn (tn_put A ⟨g, 0, none⟩ _) fun x hx e => ?_)
              subst e
              obtain ⟨cur, hh⟩ := own_ty HO3.out hx
              exact absurd (ty_eq hh HHA.out) (by decide)
            have htk : (f.b.take Sn).length = Sn := by rw [List.length_take]; omega
            have hput := put_mid HUP.out (fun x => { x with b := f.b.take Sn, sure := Sn })
            have hD9 : DRes V W9 kr { d with files := dn ++ f :: td' } (kr.row f.id (.slice ao2 Sn c2)) { d with files := dn ++ ⟨f.id, f.b.take Sn, Sn⟩ :: td' } := by
              refine HV.out.at_.putf HUP.out HFD.out (g := fun x => { x with b := f.b.take Sn, sure := Sn }) (fun _ => rfl) (x := .slice ao2 Sn c2) (Y := fun b => b = g) ?_ (fun b hb => .inl (hb.trans hid1.symm)) ?_ ?_ ?_ ?_
              · rw [← eW9]
                exact (HT6.out.then0 (Below.tn HBA.out)).then0 (tn_put A ⟨g, 0, none⟩ _)
              · rw [hid1]; exact hH9
              · show OB W9 0 _ (f.b.take Sn).length (gb (f.b.take Sn))
                rw [htk]
                refine hO9.congr fun x hx => ?_
                unfold gb
                rw [List.getD_eq_getElem?_getD, List.getD_eq_getElem?_getD, List.getElem?_take, if_pos hx]
              · refine .inr fun b hb => ?_
                have hlow : q2 ≤ b := by
                  rcases HO3.out.2 with ⟨e, _⟩ | ⟨g', cap, cur, e, hb', _⟩
                  · rw [e] at hb; cases hb
                  · rw [e] at hb; cases hb; exact hb'
                exact Nat.le_trans (Nat.le_trans HT6.out.size HGE.out) hlow
              · show _ = Dsk.mk _ _ _ _ _ (putD (dn ++ f :: td') f.id _) _ _ _ _
                rw [hput]
            have hc1 : cut1 f (x :: t) = ⟨f.id, f.b.take Sn, Sn⟩ := by unfold cut1; rw [if_neg (by rw [ELS.out.1, ELS.out.2.1]; exact HLO.out), ELS.out.2.1, HSL.out]
            have hc2 : cutR f (x :: t) = t := by unfold cutR; rw [if_neg (by rw [ELS.out.1, ELS.out.2.1]; exact HLO.out)]; rfl
            have hcc : cutL (f :: td') (x :: t) = ⟨f.id, f.b.take Sn, Sn⟩ :: cutL td' t := by show cut1 f (x :: t) :: cutL td' (cutR f (x :: t)) = _; rw [hc1, hc2]
            have hfg := HGS.out.2.2
            have hIK : InK W9 aq' t := by
              refine HI6.out.tn (X := fun b => b = g) ?_ fun hn b off e hb => ?_
              · rw [← eW9]; exact (Below.tn HBA.out).then0 (tn_put A ⟨g, 0, none⟩ _)
              · obtain ⟨h1, h2⟩ := HB6.out.1 hn b off e
                exact HNO.out b h1 h2 (.inr (.inr (.inr (.inr (.inr ⟨f, HFD.out, .inl (hb.trans hid1.symm)⟩)))))
            refine ⟨j + 1, t, aq', (cq - 1), (q - 1), by omega, by go_num, rfl, by omega, by omega, HB6.out.2.1, ⟨dn ++ [⟨f.id, f.b.take Sn, Sn⟩], td', kr.row f.id (.slice ao2 Sn c2), ?_, HTD.out.2.1, ?_, ?_, ?_, HBF.out⟩, hIK, HB6.out.1, HB6.out.2.2⟩
            · rw [List.length_append, HTD.out.1]; rfl
            · rw [HCUT.out, hcc, List.append_assoc]; rfl
            · rw [List.map_append, HIDS.out, List.take_add_one, hfg, List.map_append]; rfl
            · rw [List.append_assoc]; exact HV.out.then_ hD9
          case measure => omega
    · have e : j = n := by omega
      subst e
      go_wp2_with fail
      have HBB := HB.out.2
      refine void_endD rfl rfl ⟨rfl, ?_⟩
      obtain ⟨dn, td, kr, hl, htd, hcut, hids, hD, hbf⟩ := HBB.st
      have : td = [] := by rw [← htd]; exact List.drop_eq_nil_of_le (by rw [EN.out]; exact Nat.le_refl _)
      subst this
      have hc2 : cutL d.files kl = dn := by rw [hcut]; show dn ++ cutL [] ks = dn; unfold cutL; rw [List.append_nil]
      rw [List.append_nil] at hD
      rw [hc2]
      exact ⟨kr, HR2.out.then_ hD⟩
end Go.Proofs.Ytdaelblapgcljaa.Fx
