/- Package disk: Copy. -/
import Derived.Test.YtdaelblapgcljaaDlJ
import Derived.Test.YtdaelblapgcljaaLayF
import Derived.Shelf.SlicesE.Clone
namespace Go.Proofs.Ytdaelblapgcljaa.Fx
open Go.ChangeShapes Go.WideShapes Go.ChangeAt Go.RowKit Go.Maps Go.Sort
set_option linter.unusedVariables false

abbrev OwN (v : World) (b n : Nat) (D : DataW Unit) : Prop := v.ownsMap Try.prog 9 (plainElem Try.prog 3) b n D
def alCp (n1 n2 : Nat) (D1 D2 : DataW Unit) (i : Nat) (v : World) (g : Nat) (e : MB.Ex) : Prop := (if i = 4 then OwN v g n1 D1 else OwN v g n2 D2) ∧ e.hi = g + 1
theorem alCp_lasts (n1 n2 : Nat) (D1 D2 : DataW Unit) : MB.Lasts (alCp n1 n2 D1 D2) := fun i u v g e h hh k => by
  refine ⟨?_, h.2⟩
  have h1 := h.1
  split at h1
  · rename_i e; rw [if_pos e]; exact map_tn h1 (Below.tn (X := NilB) k) (fun h => h)
  · rename_i e; rw [if_neg e]; exact map_tn h1 (Below.tn (X := NilB) k) (fun h => h)
set_option maxRecDepth 100000 in
/-- changes, copied -/
theorem clone_chg {l : List Chg} {co : Option Addr} {cc : Nat} {w : World} (h : w.ownsRow 0 89 3 (.slice co l.length cc) l.length (flatE encG l)) (hl : l.length ≤ 1073741824) :
    Calls Try.prog 47 #[.slice co l.length cc] w fun e w' => ∃ co' cc', e = .returned (.slice co' l.length cc') ∧ w'.ownsRow w.heap.size 89 3 (.slice co' l.length cc') l.length (flatE encG l) ∧ Below w.heap.size w w' := by
  obtain ⟨i0, hi, hz0, hz1, hz2⟩ := info_parts infoCh
  obtain ⟨hlen, h⟩ := h
  rcases h with ⟨e, h0⟩ | ⟨g, cap, cur, e, _, hh, h1, h2, h3, ht⟩
  · rw [h0] at e ⊢
    injection e with e1 e2 e3
    subst e1 e3
    refine (Go.Proofs.AnyE.slices_Clone_nil layCG 0 0 w).mono ?_
    rintro e w' ⟨rfl, rfl⟩
    have e0 : l = [] := List.eq_nil_of_length_eq_zero h0
    subst e0
    exact ⟨none, 0, rfl, ⟨rfl, .inl ⟨rfl, rfl⟩⟩, Below.refl _ _⟩
  · injection e with e1 e2 e3
    subst e1 e3
    have hf : (flatE encG l).length = l.length * 3 := flatE_len encG_len l
    refine (Go.Proofs.AnyE.slices_Clone layCG i0 _ 3 40 hi hz0 hz1 hz2 rfl (by decide) Try.sizeOf89 g 0 l.length cc (flatE encG l) w hf (by unfold maxLen; omega) (by omega) ?_ (flatE_one encG_one l)).mono ?_
    · intro j u hu
      have hj : j < l.length * 3 := by rw [← hf]; exact (List.getElem?_eq_some_iff.1 hu).1
      rw [Nat.zero_add, Has.at_ (show Has w g 89 cur from hh) j, ← Array.getElem?_toList]
      have h4 := congrArg (fun l => l[j]?) ht
      simp only [List.getElem?_take, if_pos hj] at h4
      rw [h4]; exact hu
    · rintro e w' ⟨v', rfl, ho, hnn, hb⟩
      rcases ho.2 with ⟨e, _⟩ | ⟨g', cap', cur', e, _⟩
      · exact absurd e hnn
      · subst e
        exact ⟨_, _, rfl, ho, hb⟩
def valCp (i g : Nat) (e : MB.Ex) : Value := .map (some g)
/-- one file's copy: its bytes, its block -/
def alCf (B S L : Nat) (f : Nat → Nat) (i : Nat) (v : World) (g : Nat) (e : MB.Ex) : Prop := OB v B e.v L f ∧ (i = 13 → Has v g 86 #[e.v, .int .i64 (S : Nat)] ∧ e.hi = g + 1)
theorem alCf_lasts (B S L : Nat) (f : Nat → Nat) : MB.Lasts (alCf B S L f) := fun i u v g e h hh k =>
  ⟨h.1.tn (Below.tn (X := NilB) k) (fun b hb h => h), fun e => ⟨(h.2 e).1.tn (Below.tn (X := NilB) k) (fun h => h), (h.2 e).2⟩⟩
def valCf (S : Nat) (i g : Nat) (e : MB.Ex) : Value := if i = 7 then e.v else if i = 12 then .agg #[e.v, .int .i64 (S : Nat)] else .pointer (some ⟨g, 0, none⟩)
set_option maxRecDepth 100000 in
set_option maxHeartbeats 8000000 in
theorem dcopy_c {w : World} {k : Dk} {d : Dsk} (h : DAt w k d) (ho : DOl d) (hs : SmD d) : Calls Try.prog 23 #[.pointer (some ⟨k.p, 0, none⟩)] w fun e w' => ∃ k' : Dk, e = .returned (.pointer (some ⟨k'.p, 0, none⟩)) ∧ DAt w' k' d ∧ (∀ b, Foot k' d b → w.heap.size ≤ b) ∧ Below w.heap.size w w' := by
  have H0 := hid (dnone_c h)
  have HA := hid h
  have HO := hid ho
  have HS := hid hs
  obtain ⟨c0, c1, c2, c3, c4, c5, c6, c7, c8, c9, c10⟩ := h.cells
  obtain ⟨p, ep⟩ : ∃ p, k.p = p := ⟨_, rfl⟩
  obtain ⟨bn, en⟩ : ∃ p, k.bn = p := ⟨_, rfl⟩
  obtain ⟨bs, es⟩ : ∃ p, k.bs = p := ⟨_, rfl⟩
  obtain ⟨bf, ef⟩ : ∃ p, k.bf = p := ⟨_, rfl⟩
  obtain ⟨R, eR⟩ : ∃ p, d.room = p := ⟨_, rfl⟩
  obtain ⟨X, eX⟩ : ∃ p, d.next = p := ⟨_, rfl⟩
  obtain ⟨O, eO⟩ : ∃ p, d.off = p := ⟨_, rfl⟩
  obtain ⟨P, eP⟩ : ∃ p, d.ops = p := ⟨_, rfl⟩
  obtain ⟨ar, ea⟩ : ∃ p, k.ar = p := ⟨_, rfl⟩
  obtain ⟨dn, ed⟩ : ∃ p, k.dn = p := ⟨_, rfl⟩
  obtain ⟨fl, el⟩ : ∃ p, k.fl = p := ⟨_, rfl⟩
  obtain ⟨co, eco⟩ : ∃ p, k.co = p := ⟨_, rfl⟩
  obtain ⟨cc, ecc⟩ : ∃ p, k.cc = p := ⟨_, rfl⟩
  obtain ⟨m, em⟩ : ∃ p, d.chg.length = p := ⟨_, rfl⟩
  have hch : chV k d = .slice co m cc := by unfold chV; rw [eco, ecc, em]
  have E1 := hid (And.intro ep (And.intro en (And.intro es ef)))
  have E2 := hid (And.intro eR (And.intro eX (And.intro eO eP)))
  have E3 := hid (And.intro ea (And.intro ed el))
  have E4 := hid (And.intro eco (And.intro ecc em))
  rw [ep] at c0 c1 c2 c3 c4 c5 c6 c7 c8 c9 c10 H0 ⊢
  rw [eR] at c0
  rw [en] at c1
  rw [es] at c2
  rw [hch] at c3
  rw [ef] at c4
  rw [eX] at c5
  rw [eO] at c6
  rw [eP] at c7
  rw [ea] at c8
  rw [ed] at c9
  rw [el] at c10
  clear h ho hs ep en es ef eR eX eO eP ea ed el eco ecc em hch
  go_enter Try.func23, Try.ntmps23
  go_wp2_with fail
  refine H0.out.mono ?_
  rintro e w1 ⟨rfl, rfl⟩
  go_upto_region 4 with fail
  obtain ⟨Q, eQ⟩ : ∃ Q, w.heap.size = Q := ⟨_, rfl⟩
  obtain ⟨W1, eW⟩ : ∃ W1, w.alloc (.cells #[.int .i64 R, .map (some bn), .map (some bs), .slice co m cc, .map (some bf), .int .i64 (X : Nat), .bool O, .int .i64 P, .int .i64 ar, .int .i64 dn, .int .i64 fl] 62) = W1 := ⟨_, rfl⟩
  have HB1 : Hid (Below w.heap.size w W1) := by rw [← eW]; exact below_new _ _
  have HT1 : Hid (Has W1 Q 62 #[.int .i64 R, .map (some bn), .map (some bs), .slice co m cc, .map (some bf), .int .i64 (X : Nat), .bool O, .int .i64 P, .int .i64 ar, .int .i64 dn, .int .i64 fl]) := by rw [← eW, ← eQ]; exact has_new _ _ _
  have HA1 := hid ((DRes.below HA.out HB1.out).at_)
  have EQ := hid eQ
  have a1 : W1.cell? ⟨p, 1, none⟩ = some (.map (some bn)) := Below.reads HB1.out c1
  have a2 : W1.cell? ⟨p, 2, none⟩ = some (.map (some bs)) := Below.reads HB1.out c2
  have hpQ : p ≠ Q := fun e => by have := HA.out.top.here; rw [E1.out.1] at this; omega
  obtain ⟨D1, g1, b1⟩ := HA1.out.rest.mn
  obtain ⟨D2, g2, b2⟩ := HA1.out.rest.ms
  rw [E1.out.2.1] at g1
  rw [E1.out.2.2.1] at g2
  have HN := hid (And.intro b1 b2)
  obtain ⟨n1, en1⟩ : ∃ n, d.names.length = n := ⟨_, rfl⟩
  obtain ⟨n2, en2⟩ : ∃ n, d.sure.length = n := ⟨_, rfl⟩
  have EN := hid (And.intro en1 en2)
  rw [en1] at g1
  rw [en2] at g2
  have HC1 := hid (fun (u : World) (hu : Below W1.heap.size W1 u) => cloneM_c (map_tn g1 (Below.tn (X := NilB) hu) (fun h => h)))
  have HC2 := hid (fun (u : World) (hu : Below W1.heap.size W1 u) => cloneM_c (map_tn g2 (Below.tn (X := NilB) hu) (fun h => h)))
  rw [eW, eQ]
  clear eW eQ c0 c1 c2 c3 c4 c5 c6 c7 c8 c9 c10 g1 g2 b1 b2 en1 en2
  refine MB.reg_mk (alCp n1 n2 D1 D2) 10 [0, 1, 2, 3, 5, 6, 7, 8, 4, 9] [0, 1, 2, 3, 5, 6, 7, 8] [4, 9] [] (fun _ => []) (val := valCp) (by kernel_rfl) (by kernel_rfl) (fun q hq => absurd hq (by simp)) ?_
  refine MB.can_class (rest := [4, 9]) [0, 1, 2, 3, 5, 6, 7, 8] [] 55 (alCp_lasts _ _ _ _) (MB.any_class _) (by kernel_rfl) rfl (by kernel_rfl) (by kernel_rfl) ?_
  apply Exists.intro
  refine ⟨?r1, ?r2⟩
  case r1 =>
    intro Ty hTT fw hf _
    have x1 := hf.reads a1
    have x2 := hf.reads a2
    change wpQuiet _ _ _ _ [_, _, _, _, _, _, _, _] _
    repeat (go_big_quiet_step (fail))
    exact wpQuiet_nil rfl
  refine MB.can_mk 4 15 _ rfl rfl rfl rfl ?m2 fun q2 q3 => ?n2
  case m2 =>
    intro G' u _ hu
    rw [show (execOp _ _).run Try.prog u = .ok (.enter 46 #[.map (some bn)]) u by kernel_rfl]
    show Calls _ _ _ _ _
    refine (HC1.out u hu.1).mono ?_
    rintro e v ⟨rfl, h1, h2, hB⟩
    exact ⟨u.heap.size, ⟨u.heap.size + 1, .bool false⟩, rfl, hu.next (alCp_lasts _ _ _ _) hB (Nat.le_refl _) (Nat.le_succ _) (by have := h1.lt; exact this) ⟨by rw [if_pos rfl]; exact h1, rfl⟩⟩
  rw [show valCp 4 q2 q3 = .map (some q2) from rfl]
  simp only [Act.put, List.setIfInBounds_toArray, List.set_cons_succ, List.set_cons_zero]
  refine MB.can_mk 9 20 _ rfl rfl rfl rfl ?m3 fun q4 q5 => ?n3
  case m3 =>
    intro G' u _ hu
    rw [show (execOp _ _).run Try.prog u = .ok (.enter 46 #[.map (some bs)]) u by kernel_rfl]
    show Calls _ _ _ _ _
    refine (HC2.out u hu.1).mono ?_
    rintro e v ⟨rfl, h1, h2, hB⟩
    exact ⟨u.heap.size, ⟨u.heap.size + 1, .bool false⟩, rfl, hu.next (alCp_lasts _ _ _ _) hB (Nat.le_refl _) (Nat.le_succ _) (by have := h1.lt; exact this) ⟨by rw [if_neg (by decide)]; exact h1, rfl⟩⟩
  rw [show valCp 9 q4 q5 = .map (some q4) from rfl]
  simp only [Act.put, List.setIfInBounds_toArray, List.set_cons_succ, List.set_cons_zero]
  intro A hu
  obtain ⟨hg1, -, hg1', h1⟩ := hu.2.1 4 (q2, q3) (by unfold MB.upd; simp)
  obtain ⟨hg2, -, hg2', h2⟩ := hu.2.1 9 (q4, q5) (by unfold MB.upd; simp)
  have hap := hu.2.2 4 9 (q2, q3) (q4, q5) (by unfold MB.upd; simp) (by unfold MB.upd; simp) (by decide)
  have hb := hu.1
  have o1 : OwN A q2 n1 D1 := by have := h1.1; rw [if_pos rfl] at this; exact this
  have o2 : OwN A q4 n2 D2 := by have := h2.1; rw [if_neg (by decide)] at this; exact this
  have hne : q2 ≠ q4 := fun e => by
    have e1 := h1.2; have e2 := h2.2
    have e1 : q3.hi = q2 + 1 := e1
    have e2 : q5.hi = q4 + 1 := e2
    have hap : q3.hi ≤ q4 ∨ q5.hi ≤ q2 := hap
    omega
  have hg1 : W1.heap.size ≤ q2 := hg1
  have hg2 : W1.heap.size ≤ q4 := hg2
  have htA : Has A Q 62 #[.int .i64 R, .map (some bn), .map (some bs), .slice co m cc, .map (some bf), .int .i64 (X : Nat), .bool O, .int .i64 P, .int .i64 ar, .int .i64 dn, .int .i64 fl] := HT1.out.tn (Below.tn (X := NilB) hb) (fun h => h)
  have z1 : A.cell? ⟨Q, 1, none⟩ = some (.map (some bn)) := htA.at_ 1
  have z2 : A.cell? ⟨Q, 2, none⟩ = some (.map (some bs)) := htA.at_ 2
  have f1 := htA.free 1
  have f2 := htA.free 2
  have HTA := hid htA; have HO1 := hid o1; have HO2 := hid o2; have HNE := hid hne; have HG := hid (And.intro hg1 hg2); have HBA := hid hb
  clear hu h1 h2 hap hb hg1' hg2' hg1 hg2 o1 o2 hne htA HC1 HC2 a1 a2
  simp only [List.drop_succ_cons, List.drop_zero]
  go_wp2_with fail
  refine NoPanic.normal ?_
  obtain ⟨V, eV⟩ : ∃ V, (A.setCell ⟨Q, 1, none⟩ (.map (some q2))).setCell ⟨Q, 2, none⟩ (.map (some q4)) = V := ⟨_, rfl⟩
  rw [eV]
  have tV : Tn (fun b => b = Q) A V := by rw [← eV]; exact (tn_put A ⟨Q, 1, none⟩ _).then0 (tn_put _ ⟨Q, 2, none⟩ _)
  have htV : Has V Q 62 #[.int .i64 R, .map (some q2), .map (some q4), .slice co m cc, .map (some bf), .int .i64 (X : Nat), .bool O, .int .i64 P, .int .i64 ar, .int .i64 dn, .int .i64 fl] := by rw [← eV]; exact (HTA.out.put 1 _).put 2 _
  have hbA : Below w.heap.size w A := HB1.out.trans (HBA.out.mono HB1.out.size)
  have hwA : w.heap.size ≤ A.heap.size := hbA.size
  have hbV : Below w.heap.size w V := Tn.below_ hbA tV hwA (fun b hb => by have := EQ.out; omega)
  have hdV : DAt V k d := HA.out.tn (Below.tn (X := NilB) hbV) (fun _ hh => hh.elim)
  have o1 : OwN V q2 n1 D1 := map_tn HO1.out tV (fun e => map_has HO1.out HTA.out e.symm)
  have o2 : OwN V q4 n2 D2 := map_tn HO2.out tV (fun e => map_has HO2.out HTA.out e.symm)
  have c3 : V.cell? ⟨p, 3, none⟩ = some (.slice co m cc) := by
    have := hdV.cells.2.2.2.1
    rw [E1.out.1] at this
    rw [this]
    unfold chV
    rw [E4.out.1, E4.out.2.1, E4.out.2.2]
  have HCL := hid (clone_chg (w := V) (co := k.co) (cc := k.cc) (l := d.chg) hdV.rest.ch HS.out.chg)
  rw [E4.out.1, E4.out.2.1, E4.out.2.2] at HCL
  have HTV := hid htV; have HO1 := hid o1; have HO2 := hid o2; have HBV := hid hbV; have HDV := hid hdV
  clear tV htV hbA hwA hbV hdV o1 o2 eV z1 z2 f1 f2 HTA HBA
  go_wp2_with fail
  refine HCL.out.mono ?_
  rintro e U ⟨co2, cc2, rfl, hrow, hbU⟩
  have htU := HTV.out.tn (Below.tn (X := NilB) hbU) (fun h => h)
  have u3 : U.cell? ⟨Q, 3, none⟩ = some (.slice co m cc) := htU.at_ 3
  have u4 : U.cell? ⟨Q, 4, none⟩ = some (.map (some bf)) := htU.at_ 4
  have f3 := htU.free 3
  have f4 := htU.free 4
  have HTU := hid htU; have HROW := hid hrow; have HBU := hid hbU
  have hmm := @run_makeMap Try.prog
  have hQU : Q < U.heap.size := htU.here
  clear htU hrow hbU HCL c3
  go_upto_region 7 with fail
  obtain ⟨Z, eZ⟩ : ∃ Z, ((U.setCell ⟨Q, 3, none⟩ (.slice co2 m cc2)).setCell ⟨Q, 4, none⟩ (.map (some U.heap.size))).alloc (.map #[] 0) = Z := ⟨_, rfl⟩
  have tZ : Tn (fun b => b = Q) U Z := by rw [← eZ]; exact ((tn_put U ⟨Q, 3, none⟩ _).then0 (tn_put _ ⟨Q, 4, none⟩ _)).then0 (tn_alloc _ _ _)
  have htZ : Has Z Q 62 #[.int .i64 R, .map (some q2), .map (some q4), .slice co2 m cc2, .map (some U.heap.size), .int .i64 (X : Nat), .bool O, .int .i64 P, .int .i64 ar, .int .i64 dn, .int .i64 fl] := by rw [← eZ]; exact ((HTU.out.put 3 _).put 4 _).more _
  have oK : Z.ownsMap Try.prog 3 ptrE U.heap.size 0 (.map [] : DataW Unit) := by
    have := World.ownsMap_made ((U.setCell ⟨Q, 3, none⟩ (.slice co2 m cc2)).setCell ⟨Q, 4, none⟩ (.map (some U.heap.size))) Try.prog 3 ptrE
    rw [eZ, show ((U.setCell ⟨Q, 3, none⟩ (.slice co2 m cc2)).setCell ⟨Q, 4, none⟩ (.map (some U.heap.size))).heap.size = U.heap.size by simp] at this
    exact this
  have tVU := Below.tn (X := NilB) HBU.out
  have o1 : OwN Z q2 n1 D1 := map_tn (map_tn HO1.out tVU (fun h => h)) tZ (fun e => map_has HO1.out HTV.out e.symm)
  have o2 : OwN Z q4 n2 D2 := map_tn (map_tn HO2.out tVU (fun h => h)) tZ (fun e => map_has HO2.out HTV.out e.symm)
  have l1 : q2 < U.heap.size := Nat.lt_of_lt_of_le HO1.out.lt HBU.out.size
  have l2 : q4 < U.heap.size := Nat.lt_of_lt_of_le HO2.out.lt HBU.out.size
  have hbU : Below w.heap.size w U := HBV.out.trans (HBU.out.mono HBV.out.size)
  have hbZ : Below w.heap.size w Z := Tn.below_ hbU tZ hbU.size (fun b hb => by have := EQ.out; omega)
  have hdZ : DAt Z k d := HA.out.tn (Below.tn (X := NilB) hbZ) (fun _ hh => hh.elim)
  have rw3 : Z.ownsRow V.heap.size 89 3 (.slice co2 d.chg.length cc2) d.chg.length (flatE encG d.chg) := by
    have h0 := HROW.out
    refine own_tn (by rw [E4.out.2.2]; exact HROW.out) tZ (fun b hb e => ?_)
    have h9 : V.heap.size ≤ b := by
      rcases h0.2 with ⟨e1, _⟩ | ⟨g', cap, cur, e1, hb', _⟩
      · rw [show (Value.slice co2 d.chg.length cc2) = .slice co2 m cc2 by rw [E4.out.2.2], e1] at hb; cases hb
      · rw [show (Value.slice co2 d.chg.length cc2) = .slice co2 m cc2 by rw [E4.out.2.2], e1] at hb; cases hb; exact hb'
    have := HTV.out.here
    omega
  obtain ⟨bK, eK⟩ : ∃ b, U.heap.size = b := ⟨_, rfl⟩
  rw [eK] at htZ oK l1 l2
  have hQw : w.heap.size ≤ Q := Nat.le_of_eq EQ.out
  have hVU : V.heap.size ≤ bK := by rw [← eK]; exact HBU.out.size
  have hwV : w.heap.size ≤ V.heap.size := HBV.out.size
  have hG1 : w.heap.size ≤ q2 := Nat.le_trans HB1.out.size HG.out.1
  have hG2 : w.heap.size ≤ q4 := Nat.le_trans HB1.out.size HG.out.2
  -- the copy, as yet without files
  have HKC : Hid (DAt Z ⟨Q, q2, q4, bK, co2, cc2, k.ar, k.dn, k.fl, k.bl, k.ro⟩ { d with files := [] }) := by
    refine ⟨?_, ⟨HA.out.arm.lo, HA.out.arm.hi, HA.out.arm.dI, HA.out.arm.fI, HA.out.arm.dn, HA.out.arm.fl, HA.out.arm.was⟩, ⟨⟨D1, ?_, HN.out.1⟩, ⟨D2, ?_, HN.out.2⟩, ⟨_, oK, mh_nil⟩, own_base0 rw3, fun f hf => (by cases hf), HNE.out, ?_, ?_, fun f hf => (by cases hf), fun f hf => (by cases hf)⟩⟩
    · show Has Z Q _ #[.int .i64 d.room, .map (some q2), .map (some q4), .slice co2 d.chg.length cc2, .map (some bK), .int .i64 (d.next : Nat), .bool d.off, .int .i64 d.ops, .int .i64 k.ar, .int .i64 k.dn, .int .i64 k.fl]
      rw [E2.out.1, E2.out.2.1, E2.out.2.2.1, E2.out.2.2.2, E3.out.1, E3.out.2.1, E3.out.2.2, E4.out.2.2]
      exact htZ
    · show Z.ownsMap _ _ _ q2 d.names.length _
      rw [EN.out.1]; exact o1
    · show Z.ownsMap _ _ _ q4 d.sure.length _
      rw [EN.out.2]; exact o2
    · show q2 ≠ bK
      omega
    · show q4 ≠ bK
      omega
  have HFT : Hid (∀ b, Foot ⟨Q, q2, q4, bK, co2, cc2, k.ar, k.dn, k.fl, k.bl, k.ro⟩ { d with files := [] } b → w.heap.size ≤ b ∧ b < Z.heap.size) := fun b hb => by
    refine ⟨?_, HKC.out.lt hb⟩
    rcases hb with hb | hb | hb | hb | hb | ⟨f, hf, _⟩
    · have hb : b = Q := hb
      omega
    · have hb : b = q2 := hb
      omega
    · have hb : b = q4 := hb
      omega
    · have hb : b = bK := hb
      omega
    · have hb : (Value.slice co2 d.chg.length cc2).ownBlock = some b := hb
      rcases rw3.2 with ⟨e1, _⟩ | ⟨g', cap, cur, e1, hb', _⟩
      · rw [e1] at hb; cases hb
      · rw [e1] at hb
        have hb : g' = b := by injection hb
        omega
    · cases hf
  obtain ⟨DF, hownF, hmapF⟩ := hdZ.rest.mf
  rw [E1.out.2.2.2] at hownF
  have HMF := hid hmapF
  have y4 : Z.cell? ⟨p, 4, none⟩ = some (.map (some bf)) := by
    have := hdZ.cells.2.2.2.2.1
    rw [E1.out.1, E1.out.2.2.2] at this
    exact this
  obtain ⟨mf, emf⟩ : ∃ n, d.files.length = n := ⟨_, rfl⟩
  rw [emf] at hownF
  have hmf : mf ≤ 1073741824 := by
    rw [← emf]
    exact Nat.le_trans HO.out.idle HS.out.next
  have EMF := hid emf
  have hbfZ : bf < w.heap.size := by rw [← E1.out.2.2.2]; exact HA.out.rest.lt (.inr (.inr (.inl rfl)))
  have HBZ := hid hbZ
  have EK := hid eK
  have hwK : w.heap.size ≤ bK := by omega
  have hKZ : bK < Z.heap.size := oK.lt
  rw [eZ]
  clear tZ htZ oK tVU o1 o2 l1 l2 hbU hbZ hdZ rw3 hmapF emf u3 u4 f3 f4 hmm hVU eK eZ hG1 hG2
  go_wp2_with (at_range; refine wpList_range_own _ rfl _ 59 rfl 3 83 lawI Try.underlying59 ptrE bf mf DF rfl hownF ?_; intro w10 hrg1 hg1 hs1)
  go_frame
  have hK10 := hid (HKC.out.tn (tn_grown hg1) (fun b hb => by cases hb))
  have HB10 : Hid (Below w.heap.size w w10) := HBZ.out.grown hg1 HBZ.out.size (fun j hj => by cases hj)
  obtain ⟨gq, egq⟩ : ∃ g, Z.heap.size = g := ⟨_, rfl⟩
  rw [egq] at hrg1 hKZ HFT ⊢
  clear hg1 hs1 egq y4 hownF
  go_loopw [4, 5] (fun _ _ wq => ∃ (left : Lit → Bool) (cnt : Nat) (kc : Dk), wq.ranges Try.prog 3 ptrE bf gq mf DF left cnt ∧ Hid (DAt wq kc { d with files := doneL keF left d.files } ∧ kc.p = Q ∧ kc.bf = bK ∧ (∀ b, Foot kc { d with files := doneL keF left d.files } b → w.heap.size ≤ b ∧ b ≠ gq) ∧ Below w.heap.size w wq)) (fun _ _ wq => wq.rangeLeft bf gq)
  case atStart =>
    have e0 : doneL keF (Maps.has DF) d.files = [] := done_start fun f hf => HMF.out.yes hf
    refine ⟨_, _, ⟨Q, q2, q4, bK, co2, cc2, k.ar, k.dn, k.fl, k.bl, k.ro⟩, hrg1, ?_, rfl, rfl, ?_, HB10.out⟩
    · rw [e0]; exact hK10.out
    · rw [e0]; exact fun b hb => ⟨(HFT.out b hb).1, Nat.ne_of_lt (HFT.out b hb).2⟩
  case round =>
    obtain ⟨left, cnt, kc, hrg, HB⟩ := hrel
    go_wp2_with (at_next; refine wpList_next_ranges _ rfl _ rfl 3 lawI ptrE (Value.int .i64) id (fun key kl hk => by obtain ⟨s, e, _⟩ := Maps.keyOf_int_inv Try.underlying3 hk; exact ⟨s, e⟩) (fun v y hv => ⟨v, rfl⟩) bf gq mf DF left cnt rfl hrg ?_ ?_)
    · intro hc0 hl0
      have HE : Hid (DAt wr kc d ∧ kc.p = Q ∧ (∀ b, Foot kc d b → w.heap.size ≤ b) ∧ Below w.heap.size w wr) := by
        have h1 := HB.out
        rw [done_end hl0] at h1
        exact ⟨h1.1, h1.2.1, fun b hb => (h1.2.2.2.1 b hb).1, h1.2.2.2.2⟩
      clear hl0 hrg hrg1
      go_wp2_with fail
      go_ret
      exact ⟨kc, by rw [HE.out.2.1]; rfl, HE.out.1, HE.out.2.2.1, HE.out.2.2.2⟩
    · intro x c kl yd yp w8 cnt8 hkey hlk hv hat hrg8 hlt8 hg8 hs8 hen0
      obtain ⟨s', es, ekl, _⟩ := Maps.keyOf_int_inv Try.underlying3 hkey
      cases es
      subst ekl
      obtain ⟨f, hf, ex, ec⟩ := fm_come HMF.out hv hat
      have ec : c = .pointer (some ⟨k.bl f.id, 0, none⟩) := ec
      subst ec
      subst ex
      have hb8 : Below w.heap.size w w8 := HB.out.2.2.2.2.grown hg8 HB.out.2.2.2.2.size (fun j hj => by cases hj; omega)
      have hr8 : Rest w8 k d := HA.out.rest.tn (Below.tn (X := NilB) hb8) (fun _ hh => hh.elim)
      have hc8 : DAt w8 kc { d with files := doneL keF left d.files } := HB.out.1.tn (tn_grown hg8) (fun b hb hf => (HB.out.2.2.2.1 b hf).2 (by injection hb))
      have hidf : f.id ≤ 1073741824 := Nat.le_trans (HO.out.ok.next f hf) HS.out.next
      have hlf : f.b.length ≤ 1073741824 := Nat.le_trans (len_le hf) HS.out.len
      have hq8 : gq < w8.heap.size := hrg8.lt
      have hll : left (keF f) = true := hlk
      obtain ⟨ao, fc, _, hH, hOB, _, _, hfn⟩ := hr8.file hf
      obtain ⟨g, eg⟩ : ∃ g, k.bl f.id = g := ⟨_, rfl⟩
      rw [eg] at hH hen0
      obtain ⟨L, eL⟩ : ∃ L, f.b.length = L := ⟨_, rfl⟩
      obtain ⟨S, eS⟩ : ∃ S, f.sure = S := ⟨_, rfl⟩
      rw [eL] at hH hOB hfn hlf
      rw [eS] at hH
      have ELS := hid (And.intro eL eS)
      have h0 : w8.cell? ⟨g, 0, none⟩ = some (.slice ao L fc) := hH.at_ 0
      have h1 : w8.cell? ⟨g, 1, none⟩ = some (.int .i64 (S : Nat)) := hH.at_ 1
      have hq4 : w8.cell? ⟨Q, 4, none⟩ = some (.map (some bK)) := by
        have := hc8.cells.2.2.2.2.1
        rw [HB.out.2.1, HB.out.2.2.1] at this
        exact this
      have hby := hOB.by_
      have HCL := hid (fun (u : World) (hu : Below w8.heap.size w8 u) => clone8_c (c := fc) (hby.bel hu) (by omega) hfn)
      have HC8 := hid hc8; have HB8 := hid hb8; have HF := hid hf; have HLL := hid hll; have HID := hid hidf
      clear hby hOB hH hr8 hb8 hc8 hf hll hlk hat hv hkey hfn hs8 hg8 hrg1 eg eL eS hidf
      go_upto_region 10 with fail
      refine MB.reg_mk (alCf w8.heap.size S L (gb f.b)) 14 [0, 1, 2, 3, 4, 5, 6, 8, 9, 10, 11, 7, 12, 13] [0, 1, 2, 3, 4, 5, 6, 8, 9, 10, 11] [7, 12, 13] [] (fun i => if i = 12 then [7] else if i = 13 then [12] else []) (val := valCf S) (by kernel_rfl) (by kernel_rfl) (fun q hq => absurd hq (by simp)) ?_
      refine MB.can_class (rest := [7, 12, 13]) [0, 1, 2, 3, 4, 5, 6, 8, 9, 10, 11] [] 55 (alCf_lasts _ _ _ _) (MB.any_class _) (by kernel_rfl) rfl (by kernel_rfl) (by kernel_rfl) ?_
      apply Exists.intro
      refine ⟨?r5, ?r6⟩
      case r5 =>
        intro Ty hTT fw hf _
        have x0 := hf.reads h0
        have x1 := hf.reads h1
        have x4 := hf.reads hq4
        change wpQuiet _ _ _ _ [_, _, _, _, _, _, _, _, _, _, _] _
        repeat (go_big_quiet_step (fail))
        exact wpQuiet_nil rfl
      refine MB.can_mk 7 48 _ rfl rfl rfl rfl ?m7 fun q7 e7 => ?n7
      case m7 =>
        intro G' u _ hu
        rw [show (execOp _ _).run Try.prog u = .ok (.enter 45 #[.slice ao L fc]) u by kernel_rfl]
        show Calls _ _ _ _ _
        refine (HCL.out u hu.1).mono ?_
        rintro e v ⟨vv, rfl, hO, hB⟩
        exact ⟨u.heap.size, ⟨v.heap.size, vv⟩, rfl, hu.next (alCf_lasts _ _ _ _) hB (Nat.le_refl _) hB.size (Nat.le_refl _) ⟨hO.low hu.1.size, fun h => absurd h (by decide)⟩⟩
      rw [show valCf S 7 q7 e7 = e7.v from rfl]
      simp only [Act.put, List.setIfInBounds_toArray, List.set_cons_succ, List.set_cons_zero]
      refine MB.can_mk 12 53 _ rfl rfl rfl rfl ?m9 fun q9 e9 => ?n9
      case m9 =>
        intro G' u hag hu
        have h7 : G' 7 = some (q7, e7) := (hag 7 (by simp)).trans (by unfold MB.upd; simp)
        obtain ⟨_, _, _, hOf, _⟩ := hu.2.1 7 _ h7
        have hOf : OB u w8.heap.size e7.v L (gb f.b) := hOf
        obtain ⟨ao2, c2, ev, _⟩ := hOf.shape
        rw [ev] at hOf ⊢
        rw [show (execOp _ _).run Try.prog u = .ok (.value (.agg #[.slice ao2 L c2, .int .i64 (S : Nat)])) u by kernel_rfl]
        exact ⟨u.heap.size, ⟨u.heap.size, .slice ao2 L c2⟩, rfl, hu.next (alCf_lasts _ _ _ _) (Below.refl _ _) (Nat.le_refl _) (Nat.le_refl _) (Nat.le_refl _) ⟨hOf, fun h => absurd h (by decide)⟩⟩
      rw [show valCf S 12 q9 e9 = .agg #[e9.v, .int .i64 (S : Nat)] from rfl]
      simp only [Act.put, List.setIfInBounds_toArray, List.set_cons_succ, List.set_cons_zero]
      refine MB.can_mk 13 54 _ rfl rfl rfl rfl ?m8 fun q8 e8 => ?n8
      case m8 =>
        intro G' u hag hu
        have h7 : G' 12 = some (q9, e9) := (hag 12 (by simp)).trans (by unfold MB.upd; simp)
        obtain ⟨_, _, hhi, hOf, _⟩ := hu.2.1 12 _ h7
        have hOf : OB u w8.heap.size e9.v L (gb f.b) := hOf
        rw [show (execOp _ _).run Try.prog u = .ok (.value (.pointer (some ⟨u.heap.size, 0, none⟩))) (u.alloc (.cells #[e9.v, .int .i64 (S : Nat)] 86)) by kernel_rfl]
        exact ⟨u.heap.size, ⟨u.heap.size + 1, e9.v⟩, rfl, hu.next (alCf_lasts _ _ _ _) (below_new u _) (Nat.le_refl _) (Nat.le_succ _) (by simp) ⟨hOf.tn (Below.tn (X := NilB) (below_new u _)) (fun _ _ h => h), fun _ => ⟨has_new u _ _, rfl⟩⟩⟩
      rw [show valCf S 13 q8 e8 = .pointer (some ⟨q8, 0, none⟩) from rfl]
      simp only [Act.put, List.setIfInBounds_toArray, List.set_cons_succ, List.set_cons_zero]
      intro A hu
      obtain ⟨hg8', -, hg9', hOA, hHA⟩ := hu.2.1 13 (q8, e8) (by unfold MB.upd; simp)
      have hOA : OB A w8.heap.size e8.v L (gb f.b) := hOA
      have hHA : Has A q8 86 #[e8.v, .int .i64 (S : Nat)] := (hHA rfl).1
      have hg8' : w8.heap.size ≤ q8 := hg8'
      have hbA := hu.1
      have hdA := HC8.out.tn (Below.tn (X := NilB) hbA) (fun _ hh => hh.elim)
      obtain ⟨DK, hownK, hmapK⟩ := hdA.rest.mf
      rw [HB.out.2.2.1] at hownK
      have hFl : (doneL keF left d.files).length ≤ mf := by rw [← EMF.out]; exact List.length_filter_le _ _
      have hne8 : q8 ≠ bK := map_has hownK hHA
      have HHA := hid hHA; have HOA := hid hOA; have HBA := hid hbA; have HMK := hid hmapK
      have HOK := hid hownK
      have hrgA := hrg8.kept (below_grown hbA) (by simp) (by simp)
      clear hu hHA hOA hg9' hmapK hdA h0 h1 hq4 HCL
      simp only [List.drop_succ_cons, List.drop_zero]
      go_wp2_with (at_mapUpdate; refine wpList_mapUpdate_own _ rfl _ _ _ 59 rfl 3 83 lawI Try.underlying59 ptrE bK _ DK rfl hownK (by have h9 : (doneL keF left d.files).length ≤ mf := hFl; unfold maxLen; show (doneL keF left d.files).length + 1 ≤ _; omega) _ _ _ rfl rfl (keyI (a := (f.id : Nat)) (by omega) (by have := HID.out; omega)) _ [] (ptrE_some q8) ?_; intro w9 hown9 hg9; go_frame)
      have hrg9 := hrgA.kept hg9 (fun e => by have h1 : bf = bK := (by injection e); omega) (fun e => by have h1 : gq = bK := (by injection e); omega)
      refine NoPanic.normal ?_
      go_roundw
      case rel =>
        have tA : Tn (fun b => b = bK) w8 w9 := (Below.tn HBA.out (X := fun b => b = bK)).then0 ((tn_grown hg9).up fun b hb => .inl (by injection hb))
        have hne : ∀ y ∈ doneL keF left d.files, y.id ≠ f.id := fun y hy e => by
          have h1 := (List.mem_filter.1 hy).2
          have h2 := HLL.out
          have h3 : keF y = keF f := by show kk _ = kk _; rw [e]
          rw [h3, h2] at h1
          cases h1
        have hH9 : Has w9 q8 86 #[e8.v, .int .i64 (f.sure : Nat)] := by
          rw [ELS.out.2]
          exact HHA.out.tn (tn_grown hg9) (fun e => hne8 (by injection e))
        have hO9 : OB w9 0 e8.v f.b.length (gb f.b) := by
          rw [ELS.out.1]
          exact own_base0 (HOA.out.tn (tn_grown hg9) (fun b hb e => map_own HOK.out HOA.out hb (by injection e)))
        have hx9 : ∀ b, e8.v.ownBlock = some b → w8.heap.size ≤ b := fun b hb => by
          rcases HOA.out.2 with ⟨e1, _⟩ | ⟨g', cap, cur, e1, hb', _⟩
          · rw [e1] at hb; cases hb
          · rw [e1] at hb
            have hb : g' = b := by injection hb
            omega
        have hp := done_step (key := keF) (left := left) (fun n => kk_key _) (files_keys HO.out.ok.ids) HF.out HLL.out
        obtain ⟨hR9, hsub⟩ := HC8.out.rest.addf (f := f) (g := q8) (x := e8.v) hne hg8' hH9 hO9 hx9 HMK.out (by rw [HB.out.2.2.1]; exact hown9) (by rw [HB.out.2.2.1]; exact tA) hp
        have hT9 : Has w9 Q 62 (topA kc { d with files := doneL keF left d.files }) := by
          have h1 := HC8.out.top
          rw [HB.out.2.1] at h1
          exact h1.tn tA (fun e => by have h9 : Q = bK := e; have := EK.out; omega)
        have hF9 : Hid (DAt w9 (kc.addf f.id q8 e8.v) { d with files := doneL keF (fun z => left z && !z.sameKey (keF f)) d.files } ∧ (kc.addf f.id q8 e8.v).p = Q ∧ (kc.addf f.id q8 e8.v).bf = bK ∧ (∀ b, Foot (kc.addf f.id q8 e8.v) { d with files := doneL keF (fun z => left z && !z.sameKey (keF f)) d.files } b → w.heap.size ≤ b ∧ b ≠ gq) ∧ Below w.heap.size w w9) := by
          refine ⟨⟨?_, ⟨HC8.out.arm.lo, HC8.out.arm.hi, HC8.out.arm.dI, HC8.out.arm.fI, HC8.out.arm.dn, HC8.out.arm.fl, HC8.out.arm.was⟩, hR9⟩, HB.out.2.1, HB.out.2.2.1, fun b hb => ?_, Tn.below_ HB8.out tA HB8.out.size (fun b hb => by have hb : b = bK := hb; omega)⟩
          · show Has w9 kc.p _ _
            rw [HB.out.2.1]; exact hT9
          · rcases hb with hb | hb
            · have hb : b = kc.p := hb
              exact HB.out.2.2.2.1 b (.inl hb)
            · rcases hsub b hb with h2 | h2
              · exact HB.out.2.2.2.1 b (.inr h2)
              · have := HB8.out.size
                exact ⟨by omega, by omega⟩
        (repeat apply Exists.intro)
        exact ⟨⟨_, cnt8, kc.addf f.id q8 e8.v, hrg9, hF9⟩, rfl⟩
      case measure => rw [hrg9.left_eq, hrg.left_eq]; exact hlt8
end Go.Proofs.Ytdaelblapgcljaa.Fx
