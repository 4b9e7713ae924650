/- Package disk: Sync, Read, Append. -/
import Derived.Test.YtdaelblapgcljaaDkF
namespace Go.Proofs.Ytdaelblapgcljaa.Fx
open Go.ChangeShapes Go.WideShapes Go.ChangeAt Go.RowKit Go.Maps
set_option linter.unusedVariables false

abbrev NoD (d : Dsk) (s : ByteArray) (c : Int) : Prop := (opD d).2 = c ∧ c ≠ 0 ∨ (opD d).2 = 0 ∧ c = 4 ∧ lookD d.names s = none
theorem syncD_no {d : Dsk} {s : ByteArray} {c : Int} (h : NoD d s c) : syncD d s = ((opD d).1, c) := by
  unfold syncD
  rcases h with ⟨rfl, h2⟩ | ⟨h1, h2, h3⟩
  · show (if (opD d).2 ≠ 0 then opD d else _) = _
    rw [if_pos h2]
  · simp only [h1, ne_eq, not_true_eq_false, if_false, h3, h2]
theorem syncD_yes {d : Dsk} {s : ByteArray} {n : Nam} (h : (opD d).2 = 0) (hl : lookD d.names s = some n) : syncD d s = ({ (opD d).1 with files := putD d.files n.f fun f => { f with sure := f.b.length } }, 0) := by
  unfold syncD
  simp only [h, ne_eq, not_true_eq_false, if_false, hl]
theorem appendD_no {d : Dsk} {s : ByteArray} {b : List Nat} {c : Int} (h : NoD d s c) : appendD d s b = ((opD d).1, c) := by
  unfold appendD
  rcases h with ⟨rfl, h2⟩ | ⟨h1, h2, h3⟩
  · show (if (opD d).2 ≠ 0 then opD d else _) = _
    rw [if_pos h2]
  · simp only [h1, ne_eq, not_true_eq_false, if_false, h3, h2]
theorem appendD_full {d : Dsk} {s : ByteArray} {b : List Nat} {n : Nam} (h : (opD d).2 = 0) (hl : lookD d.names s = some n) (hr : d.room < sizeD d + b.length) : appendD d s b = ((opD d).1, 6) := by
  unfold appendD
  simp only [h, ne_eq, not_true_eq_false, if_false, hl, hr, if_true]
theorem appendD_yes {d : Dsk} {s : ByteArray} {b : List Nat} {n : Nam} (h : (opD d).2 = 0) (hl : lookD d.names s = some n) (hr : ¬ d.room < sizeD d + b.length) : appendD d s b = ({ (opD d).1 with files := putD d.files n.f fun f => { f with b := f.b ++ b } }, 0) := by
  unfold appendD
  simp only [h, ne_eq, not_true_eq_false, if_false, hl, hr]
theorem readD_no {d : Dsk} {s : ByteArray} {c : Int} (h : NoD d s c) : readD d s = ((opD d).1, c, []) := by
  unfold readD
  rcases h with ⟨rfl, h2⟩ | ⟨h1, h2, h3⟩
  · show (if (opD d).2 ≠ 0 then _ else _) = _
    rw [if_pos h2]
  · simp only [h1, ne_eq, not_true_eq_false, if_false, h3, h2]
theorem readD_yes {d : Dsk} {s : ByteArray} {n : Nam} {f : Fil} (h : (opD d).2 = 0) (hl : lookD d.names s = some n) (hf : fileD d.files n.f = some f) : readD d s = ((opD d).1, 0, f.b) := by
  unfold readD
  simp only [h, ne_eq, not_true_eq_false, if_false, hl, hf, Option.map_some, Option.getD_some]
theorem SmD.op {d : Dsk} (h : SmD d) (h1 : d.ops + 1 ≤ 1073741824) : SmD (opD d).1 := ⟨h.room, ⟨by have := h.ops.1; show 0 ≤ d.ops + 1; omega, h1⟩, h.next, h.chg, h.len⟩
theorem gb_app (l m : List Nat) (i : Nat) : joinB (gb l) (gb m) l.length i = gb (l ++ m) i := by
  unfold joinB gb
  split
  · rename_i h; rw [List.getD_eq_getElem?_getD, List.getD_eq_getElem?_getD, List.getElem?_append_left h]
  · rename_i h; rw [List.getD_eq_getElem?_getD, List.getD_eq_getElem?_getD, List.getElem?_append_right (by omega)]
theorem gb_lt {l : List Nat} (h : ∀ b ∈ l, b < 256) (i : Nat) : gb l i < 256 := by
  unfold gb
  by_cases hi : i < l.length
  · rw [List.getD_eq_getElem?_getD, List.getElem?_eq_getElem hi]; exact h _ (List.getElem_mem hi)
  · rw [List.getD_eq_getElem?_getD, List.getElem?_eq_none (by omega)]; simp
theorem len_le {l : List Fil} {f : Fil} (h : f ∈ l) : f.b.length ≤ lensD l := by
  induction l with
  | nil => cases h
  | cons x l ih =>
    unfold lensD at ih ⊢
    rw [List.map_cons, List.sum_cons]
    rcases List.mem_cons.1 h with rfl | h
    · omega
    · have := ih h; omega
set_option maxRecDepth 100000 in
set_option maxHeartbeats 4000000 in
theorem dsync_c {w : World} {k : Dk} {d : Dsk} (h : DAt w k d) (ho : DOl d) (hs : SmD d) (h1 : d.ops + 1 ≤ 1073741824) {s : ByteArray} (hz : s.size ≤ maxLen) :
    Calls Try.prog 28 #[.pointer (some ⟨k.p, 0, none⟩), .string s] w fun e w' => e = .returned (.int .i64 (syncD d s).2) ∧ ∃ k', DRes w w' k d k' (syncD d s).1 := by
  have H := hid (dfind_c h ho hs h1 hz)
  have HO := hid ho
  have HS := hid hs
  obtain ⟨p, ep⟩ : ∃ p, k.p = p := ⟨_, rfl⟩
  rw [ep] at H ⊢
  rcases findV_cases k d s with ⟨c, hc, hv, hno⟩ | ⟨n, h0, hl, hv⟩
  · have HD := hid (syncD_no hno)
    rw [hv] at H
    have hne : (c == 0) = false := by rcases hc with rfl | rfl | rfl <;> rfl
    clear h ho hs ep hv hno hc h1 hz
    go_enter Try.func28, Try.ntmps28
    go_wp2_with fail
    refine H.out.mono ?_
    rintro e w1 ⟨rfl, hR⟩
    have hR := hid hR
    go_wp2_with fail
    go_ret
    exact ⟨cret_i (by rw [HD.out]), _, by rw [HD.out]; exact hR.out⟩
  · have HD := hid (syncD_yes h0 hl)
    rw [hv] at H
    obtain ⟨f, hf, hfd, hfi⟩ := ho.ok.file hl
    have HF := hid (And.intro hf hfi)
    obtain ⟨g, eg⟩ : ∃ g, k.bl n.f = g := ⟨_, rfl⟩
    rw [eg] at H
    have EG := hid eg
    clear h ho hs ep hv h0 hl hf hfd hfi eg h1 hz
    go_enter Try.func28, Try.ntmps28
    go_wp2_with fail
    refine H.out.mono ?_
    rintro e w1 ⟨rfl, hR⟩
    have hfile := hR.at_.rest.file (f := f) HF.out.1
    obtain ⟨ao, cc, er, hH, hO, hc, hm, hn⟩ := hfile
    rw [HF.out.2, EG.out] at hH
    obtain ⟨L, eL⟩ : ∃ L, f.b.length = L := ⟨_, rfl⟩
    have EL := hid eL
    rw [eL] at hH
    have z0 : w1.cell? ⟨g, 0, none⟩ = some (.slice ao L cc) := hH.at_ 0
    have z1 : w1.cell? ⟨g, 1, none⟩ = some (.int .i64 (f.sure : Nat)) := hH.at_ 1
    have f1 := hH.free 1
    have HH := hid hH; have HOB := hid hO; have ER := hid er; have HR := hid hR
    obtain ⟨S, eS⟩ : ∃ S : Int, (f.sure : Int) = S := ⟨_, rfl⟩
    rw [eS] at z1
    clear hH hO er hR eL hc hm hn eS
    go_wp2_with fail
    go_ret
    refine ⟨cret_i (by rw [HD.out]), k.row f.id (k.ro f.id), ?_⟩
    rw [HD.out]
    refine HR.out.then_ (HR.out.at_.putf HO.out.op.ok.ids HF.out.1 (g := fun f => { f with sure := f.b.length }) (fun _ => rfl) (tn_put w1 ⟨g, 1, none⟩ (.int .i64 (L : Nat))) (fun b hb => .inl (by rw [HF.out.2, EG.out]; exact hb)) ?_ ?_ (.inl rfl) (by rw [HF.out.2]; rfl))
    · have := HH.out.put 1 (.int .i64 (L : Nat))
      rw [HF.out.2, EG.out, ← HF.out.2, ER.out]
      show Has _ g _ #[.slice ao f.b.length cc, .int .i64 (f.b.length : Nat)]
      rw [EL.out]
      exact this
    · rw [ER.out]
      refine HOB.out.tn (tn_put w1 ⟨g, 1, none⟩ (.int .i64 (L : Nat))) fun x hx e => ?_
      subst e
      obtain ⟨cur, e⟩ := own_ty HOB.out hx
      exact absurd (ty_eq e HH.out) (by decide)
set_option maxRecDepth 100000 in
set_option maxHeartbeats 4000000 in
theorem dread_c {w : World} {k : Dk} {d : Dsk} (h : DAt w k d) (ho : DOl d) (hs : SmD d) (h1 : d.ops + 1 ≤ 1073741824) {s : ByteArray} (hz : s.size ≤ maxLen) :
    Calls Try.prog 22 #[.pointer (some ⟨k.p, 0, none⟩), .string s] w fun e w' => ∃ v, e = .returned (.tuple #[v, .int .i64 (readD d s).2.1]) ∧ OB w' w.heap.size v (readD d s).2.2.length (gb (readD d s).2.2) ∧ (∀ g, v.ownBlock = some g → w.heap.size ≤ g) ∧ ∃ k', DRes w w' k d k' (readD d s).1 ∧ ∀ g, v.ownBlock = some g → ¬ Foot k' (readD d s).1 g := by
  have H := hid (dfind_c h ho hs h1 hz)
  have HO := hid ho
  have HS := hid hs
  obtain ⟨p, ep⟩ : ∃ p, k.p = p := ⟨_, rfl⟩
  rw [ep] at H ⊢
  rcases findV_cases k d s with ⟨c, hc, hv, hno⟩ | ⟨n, h0, hl, hv⟩
  · have HD := hid (readD_no hno)
    rw [hv] at H
    have hne : (c == 0) = false := by rcases hc with rfl | rfl | rfl <;> rfl
    clear h ho hs ep hv hno hc h1 hz
    go_enter Try.func22, Try.ntmps22
    go_wp2_with fail
    refine H.out.mono ?_
    rintro e w1 ⟨rfl, hR⟩
    have hR := hid hR
    go_wp2_with fail
    refine bodyPost_ret (v := .tuple #[.slice none 0 0, .int .i64 c]) (by simp [results, Try.results22, go_sem]) rfl ?_
    rw [HD.out]
    exact ⟨_, rfl, OB.nil _ _ _, (fun g e => by cases e), k, hR.out, (fun g e => by cases e)⟩
  · rw [hv] at H
    obtain ⟨f, hf, hfd, hfi⟩ := ho.ok.file hl
    have HD := hid (readD_yes h0 hl hfd)
    have HF := hid (And.intro hf hfi)
    have hlen : f.b.length ≤ 1073741824 := Nat.le_trans (len_le hf) hs.len
    have HL := hid hlen
    obtain ⟨g, eg⟩ : ∃ g, k.bl n.f = g := ⟨_, rfl⟩
    rw [eg] at H
    have EG := hid eg
    clear h ho hs ep hv h0 hl hf hfd hfi eg h1 hz hlen
    go_enter Try.func22, Try.ntmps22
    go_wp2_with fail
    refine H.out.mono ?_
    rintro e w1 ⟨rfl, hR⟩
    have hfile := hR.at_.rest.file (f := f) HF.out.1
    obtain ⟨ao, cc, er, hH, hO, hc, hm, hn⟩ := hfile
    rw [HF.out.2, EG.out] at hH
    obtain ⟨L, eL⟩ : ∃ L, f.b.length = L := ⟨_, rfl⟩
    have EL := hid eL
    rw [eL] at hH hn hO
    have z0 : w1.cell? ⟨g, 0, none⟩ = some (.slice ao L cc) := hH.at_ 0
    have HC := hid (clone8_c (c := cc) hO.by_ (by have := HL.out; omega) hn)
    have HR := hid hR
    clear hH hO er hR eL hc hm hn
    go_wp2_with fail
    refine HC.out.mono ?_
    rintro e w2 ⟨v, rfl, hOB, hB⟩
    have hOB := hid hOB
    have hB := hid hB
    go_wp2_with fail
    refine bodyPost_ret (v := .tuple #[v, .int .i64 0]) (by simp [results, Try.results22, go_sem]) rfl ?_
    rw [HD.out]
    have hge : ∀ x, v.ownBlock = some x → w1.heap.size ≤ x := fun x hx => by
      rcases hOB.out.2 with ⟨rfl, _⟩ | ⟨y, cap, cur, rfl, hb, _⟩
      · cases hx
      · cases hx; exact hb
    refine ⟨v, rfl, ?_, fun x hx => Nat.le_trans HR.out.tn.size (hge x hx), k, HR.out.then_ (DRes.below HR.out.at_ hB.out), fun x hx hf => ?_⟩
    · have := hOB.out.low HR.out.tn.size
      show OB w2 w.heap.size v f.b.length (gb f.b)
      rw [EL.out]
      exact this
    · have h1 := hge x hx
      have h2 := HR.out.at_.lt hf
      omega
set_option maxRecDepth 100000 in
set_option maxHeartbeats 4000000 in
theorem dappend_c {w : World} {k : Dk} {d : Dsk} (h : DAt w k d) (ho : DOl d) (hs : SmD d) (h1 : d.ops + 1 ≤ 1073741824) {s : ByteArray} (hz : s.size ≤ maxLen) {b : List Nat} {ab : Option Addr} {cb : Nat} (hb : By w ab b.length (gb b)) (hbx : 0 < b.length → ∀ x off, ab = some ⟨x, off, none⟩ → ¬ Foot k d x) (hbl : b.length ≤ 1073741824) :
    Calls Try.prog 19 #[.pointer (some ⟨k.p, 0, none⟩), .string s, .slice ab b.length cb] w fun e w' => e = .returned (.int .i64 (appendD d s b).2) ∧ ∃ k', DRes w w' k d k' (appendD d s b).1 := by
  have H := hid (dfind_c h ho hs h1 hz)
  have HO := hid ho
  have HS := hid hs
  have HB := hid hb
  have HBX := hid hbx
  have HSZ := hid (fun (v : World) (hv : DAt v k (opD d).1) => dsize_c hv ho.op (hs.op h1))
  obtain ⟨p, ep⟩ : ∃ p, k.p = p := ⟨_, rfl⟩
  have EP := hid ep
  rw [ep] at H HSZ ⊢
  obtain ⟨nb, enb⟩ : ∃ n, b.length = n := ⟨_, rfl⟩
  have ENB := hid enb
  rw [enb] at hbl ⊢
  rcases findV_cases k d s with ⟨c, hc, hv, hno⟩ | ⟨n, h0, hl, hv⟩
  · have HD := hid (appendD_no (b := b) hno)
    rw [hv] at H
    have hne : (c == 0) = false := by rcases hc with rfl | rfl | rfl <;> rfl
    clear h ho hs ep hv hno hc h1 hz hb hbx enb
    go_enter Try.func19, Try.ntmps19
    go_wp2_with fail
    refine H.out.mono ?_
    rintro e w1 ⟨rfl, hR⟩
    have hR := hid hR
    go_wp2_with fail
    go_ret
    exact ⟨cret_i (by rw [HD.out]), _, by rw [HD.out]; exact hR.out⟩
  · have HN := hid (And.intro h0 hl)
    rw [hv] at H
    obtain ⟨f, hf, hfd, hfi⟩ := ho.ok.file hl
    have HF := hid (And.intro hf hfi)
    have hlen : f.b.length ≤ 1073741824 := Nat.le_trans (len_le hf) hs.len
    have HL := hid hlen
    obtain ⟨g, eg⟩ : ∃ g, k.bl n.f = g := ⟨_, rfl⟩
    rw [eg] at H
    have EG := hid eg
    have hsz : sizeD d ≤ 1073741824 := Nat.le_trans ho.ok.size hs.len
    obtain ⟨Z, eZ⟩ : ∃ Z, sizeD d = Z := ⟨_, rfl⟩
    obtain ⟨Rm, eR⟩ : ∃ R, d.room = R := ⟨_, rfl⟩
    have ER0 := hid (And.intro eZ eR)
    have hR1 := hs.room
    rw [eZ] at hsz
    rw [eR] at hR1
    clear h ho hs ep hv h0 hl hf hfd hfi eg h1 hz hlen hb hbx enb eZ eR
    go_enter Try.func19, Try.ntmps19
    go_wp2_with fail
    refine H.out.mono ?_
    rintro e w1 ⟨rfl, hR⟩
    have HR := hid hR
    have c0 : w1.cell? ⟨p, 0, none⟩ = some (.int .i64 Rm) := by
      have := hR.at_.cells.1
      rw [EP.out] at this
      rw [this, ← ER0.out.2]; rfl
    clear hR
    go_wp2_with fail
    refine reg_below (by kernel_rfl) (by kernel_rfl) ?_
    intro T hT fw hf
    have x0 := hf.reads c0
    have hz := fun t => hf.below (x := t) (v := .int .i64 (Z : Nat)) (by
      have := HSZ.out (fw t) (HR.out.at_.tn (Below.tn (X := NilB) (hf.1 t)) (fun _ hh => hh.elim))
      have e : sizeD (opD d).1 = Z := ER0.out.1
      rw [e] at this
      exact this)
    have HZ := hid hz
    clear hz
    repeat (go_big_quiet_step ((go_at_call 21; with_reducible exact HZ.out _)))
    refine wpQuiet_nil ?_
    intro w2 h2
    have k2 := hid (hf.here h2)
    clear x0 HZ hf h2 c0
    have HR2 := hid (HR.out.then_ (DRes.below HR.out.at_ k2.out))
    by_cases hroom : Rm < (Z : Int) + (nb : Nat)
    · have q1 : decide ((Z : Int) + (nb : Nat) > Rm) = true := decide_eq_true hroom
      have HD : Hid (appendD d s b = ((opD d).1, 6)) := appendD_full HN.out.1 HN.out.2 (by rw [ER0.out.1, ER0.out.2, ENB.out]; exact hroom)
      have hroom := hid hroom
      go_wp2_with fail
      go_ret
      exact ⟨cret_i (by rw [HD.out]), _, by rw [HD.out]; exact HR2.out⟩
    · have q1 : decide ((Z : Int) + (nb : Nat) > Rm) = false := decide_eq_false hroom
      have HD : Hid (appendD d s b = ({ (opD d).1 with files := putD d.files n.f fun f => { f with b := f.b ++ b } }, 0)) := appendD_yes HN.out.1 HN.out.2 (by rw [ER0.out.1, ER0.out.2, ENB.out]; exact hroom)
      have hroom := hid hroom
      obtain ⟨ao, cc, er, hH, hO, hc, hm, hn⟩ := HR2.out.at_.rest.file (f := f) HF.out.1
      rw [HF.out.2, EG.out] at hH
      have hby : By w2 ab b.length (gb b) := (HB.out.tn HR.out.tn fun h0 x off e => HBX.out h0 x off e).bel k2.out
      obtain ⟨v', w3, hrun, hOB, hg, hat⟩ := append_by_at (c := cb) 29 hO hby (by have := HL.out; rw [ENB.out]; omega) (Nat.zero_le _)
      obtain ⟨ao2, c2, rfl, _⟩ := hOB.shape
      obtain ⟨v', ev⟩ : ∃ v', Value.slice ao2 (f.b.length + b.length) c2 = v' := ⟨_, rfl⟩
      have EV := hid ev
      have gne : (Value.slice ao f.b.length cc).ownBlock ≠ some g := fun e => by
        obtain ⟨cur, e⟩ := own_ty hO e
        exact absurd (ty_eq e hH) (by decide)
      have hH3 : Has w3 g 86 #[.slice ao f.b.length cc, .int .i64 (f.sure : Nat)] := hH.tn (tn_grown hg) (fun e => gne e.symm)
      have z0 : w2.cell? ⟨g, 0, none⟩ = some (.slice ao f.b.length cc) := hH.at_ 0
      have y0 : w3.cell? ⟨g, 0, none⟩ = some (.slice ao f.b.length cc) := hH3.at_ 0
      have f0 := hH3.free 0
      obtain ⟨M, eM⟩ : ∃ M, f.b.length + b.length = M := ⟨_, rfl⟩
      have hrun0 := hrun
      rw [eM, ENB.out] at hrun0
      rw [ev] at hOB hat
      have EM := hid eM
      obtain ⟨L, eL⟩ : ∃ L, f.b.length = L := ⟨_, rfl⟩
      have EL := hid eL
      have HG := hid hg; have HO2 := hid hO; have HOB := hid hOB; have HAT := hid hat; have HH := hid hH; have HH3 := hid hH3; have ER := hid er; have HRUN := hid hrun0; have GN := hid gne
      rw [eL] at z0 y0 HRUN
      clear hg hO hOB hat hH hH3 er hrun hrun0 hby hc hm hn eL gne ev eM
      go_wp2_with (at_builtin; refine Lib.wpList_append_run _ rfl _ _ _ _ rfl _ _ rfl rfl _ _ HRUN.out ?_)
      go_wp2_with fail
      go_ret
      have EVM : Value.slice ao2 M c2 = v' := by rw [← EM.out]; exact EV.out
      rw [EVM]
      refine ⟨cret_i (by rw [HD.out]), k.row f.id v', ?_⟩
      rw [HD.out]
      have hW : Has (w3.setCell ⟨g, 0, none⟩ v') g 86 #[v', .int .i64 (f.sure : Nat)] := HH3.out.put 0 v'
      have vne : v'.ownBlock ≠ some g := fun e => by
        obtain ⟨cur, e⟩ := own_ty HOB.out e
        exact absurd (ty_eq e HH3.out) (by decide)
      have t : Tn (fun b => b = g ∨ some b = (Value.slice ao f.b.length cc).ownBlock) w2 (w3.setCell ⟨g, 0, none⟩ v') := ((tn_grown HG.out).up fun b hb => .inl (.inr hb)).then_ (tn_put w3 ⟨g, 0, none⟩ v') fun b hb => .inl (.inl hb)
      refine HR2.out.then_ (HR2.out.at_.putf HO.out.op.ok.ids HF.out.1 (g := fun f => { f with b := f.b ++ b }) (fun _ => rfl) t (fun b hb => ?_) ?_ ?_ ?_ (by rw [HF.out.2]; rfl))
      · rcases hb with hb | hb
        · exact .inl (by rw [HF.out.2, EG.out]; exact hb)
        · exact .inr (by rw [ER.out]; exact hb.symm)
      · rw [HF.out.2, EG.out]; exact hW
      · have h3 : OB (w3.setCell ⟨g, 0, none⟩ v') 0 v' (f.b.length + b.length) (joinB (gb f.b) (gb b) f.b.length) := HOB.out.tn (tn_put w3 ⟨g, 0, none⟩ v') fun x hx e => vne (by rw [hx, e])
        have h4 := h3.congr fun i _ => gb_app f.b b i
        rw [← List.length_append] at h4
        exact h4
      · rw [ER.out]
        rcases HAT.out with e | e
        · exact .inl e
        · exact .inr fun x hx => by rw [e] at hx; cases hx; exact Nat.le_refl _
end Go.Proofs.Ytdaelblapgcljaa.Fx
