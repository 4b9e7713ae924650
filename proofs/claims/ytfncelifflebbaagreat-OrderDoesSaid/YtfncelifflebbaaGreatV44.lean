/- OrE OrH OrN -/
import Derived.Test.YtfncelifflebbaaGreatV32
import Derived.Test.YtfncelifflebbaaGreatV43
import Derived.Deep.LoopGhost
import Derived.LoopN
import Derived.WalkMore

/- order.Same. -/

namespace Go.Proofs.YtfncelifflebbaaGreat.Fx
open Go.ChangeShapes Go.WideShapes Go.ChangeAt Go.RowKit
set_option linter.unusedVariables false

def EqO (a b : Or) : Prop := a.kd = b.kd ∧ a.id = b.id ∧ a.a = b.a ∧ a.b = b.b ∧ (a.x = b.x ∧ a.y = b.y) ∧ (a.vx = b.vx ∧ a.vy = b.vy) ∧ a.an = b.an ∧ a.sp = b.sp ∧ a.de = b.de ∧ a.ln = b.ln ∧ a.k = b.k ∧ a.r = b.r ∧ a.n = b.n ∧ ∀ i, i < a.n → a.f i = b.f i
set_option maxRecDepth 100000 in
set_option maxHeartbeats 32000000 in
theorem osame_c (q : Bool) (o o' : Or) {w : World} (hmx : o.n ≤ 1073741824) (hl : Sl w o.ao o.n o.f) (hl' : Sl w o'.ao o'.n o'.f) (hr : q = true ↔ EqO o o') :
    Calls Tryz.prog 12 #[orV o, orV o'] w fun e v => e = .returned (.bool q) ∧ Made w.heap.size w v := by
  obtain ⟨kd, id, a, b, x, y, vx, vy, an, sp, de, ln, k, r, ao, n, c, f⟩ := o
  obtain ⟨kd', id', a', b', x', y', vx', vy', an', sp', de', ln', k', r', bo, n', c', g⟩ := o'
  simp only [EqO] at hr
  simp only [] at hmx hl hl'
  have HR := hid hr
  obtain ⟨W, eW⟩ : ∃ W, W = (w.alloc (.cells #[.int .i64 kd, .int .i64 id, .int .i64 a, .int .i64 b, .int .i64 x, .int .i64 y, .int .i64 vx, .int .i64 vy, .int .i64 an, .int .i64 sp, .int .i64 de, .int .i64 ln, .int .i64 k, .int .i64 r, .slice ao n c] 29)).alloc (.cells #[.int .i64 kd', .int .i64 id', .int .i64 a', .int .i64 b', .int .i64 x', .int .i64 y', .int .i64 vx', .int .i64 vy', .int .i64 an', .int .i64 sp', .int .i64 de', .int .i64 ln', .int .i64 k', .int .i64 r', .slice bo n' c'] 29) := ⟨_, rfl⟩
  have KW : Made w.heap.size w ((w.alloc (.cells #[.int .i64 kd, .int .i64 id, .int .i64 a, .int .i64 b, .int .i64 x, .int .i64 y, .int .i64 vx, .int .i64 vy, .int .i64 an, .int .i64 sp, .int .i64 de, .int .i64 ln, .int .i64 k, .int .i64 r, .slice ao n c] 29)).alloc (.cells #[.int .i64 kd', .int .i64 id', .int .i64 a', .int .i64 b', .int .i64 x', .int .i64 y', .int .i64 vx', .int .i64 vy', .int .i64 an', .int .i64 sp', .int .i64 de', .int .i64 ln', .int .i64 k', .int .i64 r', .slice bo n' c'] 29)) := ((Made.rfl_ _ _).cells (Nat.le_refl _) _ _).cells (by simp) _ _
  have HKW := hid KW
  have KW' : Hid (Made w.heap.size w W) := by unfold Hid; rw [eW]; exact KW
  have hlk : Hid (Sl W ao n f) := fun hn => by obtain ⟨b, off, e, hp⟩ := hl hn; exact ⟨b, off, e, hp.kept KW'.out⟩
  have hlk' : Hid (Sl W bo n' g) := fun hn => by obtain ⟨b, off, e, hp⟩ := hl' hn; exact ⟨b, off, e, hp.kept KW'.out⟩
  have HEW := hid eW
  clear eW KW hl hl' hr
  go_enter Tryz.func12, Tryz.ntmps12
  by_cases h0 : kd = kd'
  case neg =>
    have e : q = false := Bool.eq_false_iff.2 fun h => h0 (HR.out.1 h).1
    have q_kd : (kd == kd') = false := by simpa using (show ¬ kd = kd' from h0)
    subst e
    clear h0
    go_wp2_with fail
    go_ret
    exact ⟨rfl, HKW.out⟩
  have q_kd : (kd == kd') = true := by simpa using (show kd = kd' from h0)
  by_cases h1 : id = id'
  case neg =>
    have e : q = false := Bool.eq_false_iff.2 fun h => h1 (HR.out.1 h).2.1
    have q_id : (id == id') = false := by simpa using (show ¬ id = id' from h1)
    subst e
    clear h1 h0
    go_wp2_with fail
    go_ret
    exact ⟨rfl, HKW.out⟩
  have q_id : (id == id') = true := by simpa using (show id = id' from h1)
  by_cases h2 : a = a'
  case neg =>
    have e : q = false := Bool.eq_false_iff.2 fun h => h2 (HR.out.1 h).2.2.1
    have q_a : (a == a') = false := by simpa using (show ¬ a = a' from h2)
    subst e
    clear h2 h0 h1
    go_wp2_with fail
    go_ret
    exact ⟨rfl, HKW.out⟩
  have q_a : (a == a') = true := by simpa using (show a = a' from h2)
  by_cases h3 : b = b'
  case neg =>
    have e : q = false := Bool.eq_false_iff.2 fun h => h3 (HR.out.1 h).2.2.2.1
    have q_b : (b == b') = false := by simpa using (show ¬ b = b' from h3)
    subst e
    clear h3 h0 h1 h2
    go_wp2_with fail
    go_ret
    exact ⟨rfl, HKW.out⟩
  have q_b : (b == b') = true := by simpa using (show b = b' from h3)
  by_cases h4 : x = x' ∧ y = y'
  case neg =>
    have e : q = false := Bool.eq_false_iff.2 fun h => h4 (HR.out.1 h).2.2.2.2.1
    have q_x := veql x y x' y' false (iff_of_false (by simp) h4)
    subst e
    clear h4 h0 h1 h2 h3
    go_wp2_with fail
    go_ret
    exact ⟨rfl, HKW.out⟩
  have q_x := veql x y x' y' true (iff_of_true rfl h4)
  by_cases h5 : vx = vx' ∧ vy = vy'
  case neg =>
    have e : q = false := Bool.eq_false_iff.2 fun h => h5 (HR.out.1 h).2.2.2.2.2.1
    have q_vx := veql vx vy vx' vy' false (iff_of_false (by simp) h5)
    subst e
    clear h5 h0 h1 h2 h3 h4
    go_wp2_with fail
    go_ret
    exact ⟨rfl, HKW.out⟩
  have q_vx := veql vx vy vx' vy' true (iff_of_true rfl h5)
  by_cases h6 : an = an'
  case neg =>
    have e : q = false := Bool.eq_false_iff.2 fun h => h6 (HR.out.1 h).2.2.2.2.2.2.1
    have q_an : (an == an') = false := by simpa using (show ¬ an = an' from h6)
    subst e
    clear h6 h0 h1 h2 h3 h4 h5
    go_wp2_with fail
    go_ret
    exact ⟨rfl, HKW.out⟩
  have q_an : (an == an') = true := by simpa using (show an = an' from h6)
  by_cases h7 : sp = sp'
  case neg =>
    have e : q = false := Bool.eq_false_iff.2 fun h => h7 (HR.out.1 h).2.2.2.2.2.2.2.1
    have q_sp : (sp == sp') = false := by simpa using (show ¬ sp = sp' from h7)
    subst e
    clear h7 h0 h1 h2 h3 h4 h5 h6
    go_wp2_with fail
    go_ret
    exact ⟨rfl, HKW.out⟩
  have q_sp : (sp == sp') = true := by simpa using (show sp = sp' from h7)
  by_cases h8 : de = de'
  case neg =>
    have e : q = false := Bool.eq_false_iff.2 fun h => h8 (HR.out.1 h).2.2.2.2.2.2.2.2.1
    have q_de : (de == de') = false := by simpa using (show ¬ de = de' from h8)
    subst e
    clear h8 h0 h1 h2 h3 h4 h5 h6 h7
    go_wp2_with fail
    go_ret
    exact ⟨rfl, HKW.out⟩
  have q_de : (de == de') = true := by simpa using (show de = de' from h8)
  by_cases h9 : ln = ln'
  case neg =>
    have e : q = false := Bool.eq_false_iff.2 fun h => h9 (HR.out.1 h).2.2.2.2.2.2.2.2.2.1
    have q_ln : (ln == ln') = false := by simpa using (show ¬ ln = ln' from h9)
    subst e
    clear h9 h0 h1 h2 h3 h4 h5 h6 h7 h8
    go_wp2_with fail
    go_ret
    exact ⟨rfl, HKW.out⟩
  have q_ln : (ln == ln') = true := by simpa using (show ln = ln' from h9)
  have HC := hid (shapeSame_c (c := c) (c' := c') q k r k' r' hmx hlk.out hlk'.out (by rw [HR.out]; simp [h0, h1, h2, h3, h4, h5, h6, h7, h8, h9]))
  clear h0 h1 h2 h3 h4 h5 h6 h7 h8 h9
  go_wp2_with fail
  rw [← HEW.out]
  refine HC.out.mono ?_
  rintro e w1 ⟨rfl, k1⟩
  have K1 := hid (KW'.out.then_ (k1.low KW'.out.1.size))
  clear k1
  go_wp2_with fail
  go_ret
  exact ⟨by first | rfl | trivial, K1.out⟩
end Go.Proofs.YtfncelifflebbaaGreat.Fx


/- order.Right. -/


namespace Go.Proofs.YtfncelifflebbaaGreat.Fx
open Go.ChangeShapes Go.WideShapes Go.ChangeAt Go.RowKit
set_option linter.unusedVariables false

theorem order_iff (o : Or) : OrderP o ↔ EqO o (usedOr o) ∧ FitP o := by
  obtain ⟨kd, id, a, b, x, y, vx, vy, an, sp, de, ln, k, r, ao, n, c, f⟩ := o
  unfold OrderP EqO FitP usedOr BareO
  simp only []
  by_cases h1 : kd = 1
  · subst h1
    by_cases hB : BodyP (bodyOr ⟨1, id, a, b, x, y, vx, vy, an, sp, de, ln, k, r, ao, n, c, f⟩) <;> simp [hB] <;> omega
  by_cases h2 : kd = 2
  · subst h2; by_cases hn : n = 0 <;> simp [hn, Or.kind] <;> omega
  by_cases h4 : kd = 4
  · subst h4; by_cases hn : n = 0 <;> simp [hn, Or.kind] <;> omega
  by_cases h3 : kd = 3
  · subst h3
    by_cases hn : n = 0
    · subst hn
      by_cases hB : JointP (jointOr ⟨3, id, a, b, x, y, vx, vy, an, sp, de, ln, k, r, ao, 0, c, f⟩) <;> simp [hB] <;> omega
    · simp [hn]
  by_cases h5 : kd = 5
  · subst h5; by_cases hn : n = 0 <;> simp [hn, Inn] <;> omega
  by_cases h6 : kd = 6
  · subst h6; by_cases hn : n = 0 <;> simp [hn, Inn] <;> omega
  simp [h1, h2, h3, h4, h5, h6]
theorem usedOr_sl (o : Or) {w : World} (h : Sl w o.ao o.n o.f) : Sl w (usedOr o).ao (usedOr o).n (usedOr o).f := by
  unfold usedOr Or.kind
  split
  · exact h
  · repeat' split
    all_goals exact fun hn => absurd hn (by simp)
set_option maxRecDepth 100000 in
set_option maxHeartbeats 16000000 in
theorem oright_c (q : Bool) (o : Or) {w : World} (hmx : o.n ≤ 1073741824) (hi : OrI o) (hs : Sl w o.ao o.n o.f) (hq : q = true ↔ OrderP o) : Calls Tryz.prog 10 #[orV o] w fun e v => e = .returned (.bool q) ∧ Made w.heap.size w v := by
  obtain ⟨c1, hc1⟩ := a_bool (EqO o (usedOr o))
  obtain ⟨c2, hc2⟩ := a_bool (FitP o)
  have HQ : Hid (q = true ↔ c1 = true ∧ c2 = true) := by unfold Hid; rw [hq, hc1, hc2]; exact order_iff o
  have hsk : ∀ v, Made w.heap.size w v → Sl v o.ao o.n o.f := fun v k hn => by obtain ⟨b, off, e, hp⟩ := hs hn; exact ⟨b, off, e, hp.kept k⟩
  have HU := hid (fun v => used_c o v)
  have HS := hid (fun v (k : Made w.heap.size w v) => osame_c c1 o (usedOr o) hmx (hsk v k) (usedOr_sl o (hsk v k)) hc1)
  have HF := hid (fun v (k : Made w.heap.size w v) => fits_c c2 o hi (hsk v k) hc2)
  clear hsk hc1 hc2 hq hs hi hmx
  generalize usedOr o = U at HU HS
  obtain ⟨kd, id, a, b, x, y, vx, vy, an, sp, de, ln, k, r, ao, n, c, f⟩ := o
  obtain ⟨ukd, uid, ua, ub, ux, uy, uvx, uvy, uan, usp, ude, uln, uk, ur, uo, un, uc, uf⟩ := U
  obtain ⟨W, eW⟩ : ∃ W, W = w.alloc (.cells #[.int .i64 kd, .int .i64 id, .int .i64 a, .int .i64 b, .int .i64 x, .int .i64 y, .int .i64 vx, .int .i64 vy, .int .i64 an, .int .i64 sp, .int .i64 de, .int .i64 ln, .int .i64 k, .int .i64 r, .slice ao n c] 29) := ⟨_, rfl⟩
  have KW : Hid (Made w.heap.size w W) := by unfold Hid; rw [eW]; exact (Made.rfl_ _ _).cells (Nat.le_refl _) _ _
  have HB : Hid (Has W w.heap.size 29 #[.int .i64 kd, .int .i64 id, .int .i64 a, .int .i64 b, .int .i64 x, .int .i64 y, .int .i64 vx, .int .i64 vy, .int .i64 an, .int .i64 sp, .int .i64 de, .int .i64 ln, .int .i64 k, .int .i64 r, .slice ao n c]) := by unfold Hid; rw [eW]; exact has_new _ _ _
  obtain ⟨g1, eg1⟩ : ∃ g, w.heap.size = g := ⟨_, rfl⟩
  have HG1 := hid eg1
  rw [eg1] at HB
  have b0 := HB.out.at_ 0
  have b1 := HB.out.at_ 1
  have b2 := HB.out.at_ 2
  have b3 := HB.out.at_ 3
  have b4 := HB.out.at_ 4
  have b5 := HB.out.at_ 5
  have b6 := HB.out.at_ 6
  have b7 := HB.out.at_ 7
  have b8 := HB.out.at_ 8
  have b9 := HB.out.at_ 9
  have b10 := HB.out.at_ 10
  have b11 := HB.out.at_ 11
  have b12 := HB.out.at_ 12
  have b13 := HB.out.at_ 13
  have b14 := HB.out.at_ 14
  simp at b0 b1 b2 b3 b4 b5 b6 b7 b8 b9 b10 b11 b12 b13 b14
  have l1 : g1 < W.heap.size := HB.out.here
  go_enter Tryz.func10, Tryz.ntmps10
  go_upto_region 1 with fail
  rw [← eW]
  clear eW
  try rw [eg1]
  clear eg1
  go_wp2_with fail
  cases c1
  all_goals
    refine reg_made (by kernel_rfl) (by kernel_rfl) ?_
    intro Ty hT fw hf
    have z0 := Class.reads hf b0
    have z1 := Class.reads hf b1
    have z2 := Class.reads hf b2
    have z3 := Class.reads hf b3
    have z4 := Class.reads hf b4
    have z5 := Class.reads hf b5
    have z6 := Class.reads hf b6
    have z7 := Class.reads hf b7
    have z8 := Class.reads hf b8
    have z9 := Class.reads hf b9
    have z10 := Class.reads hf b10
    have z11 := Class.reads hf b11
    have z12 := Class.reads hf b12
    have z13 := Class.reads hf b13
    have z14 := Class.reads hf b14
    repeat (go_big_quiet_step ((first
      | (go_at_call 35; exact hf.made (HU.out _))
      | (go_at_call 12; exact hf.made (HS.out _ (KW.out.then_ ((hf.1 _).low KW.out.1.size))))
      | (go_at_call 36; exact hf.made (HF.out _ (KW.out.then_ ((hf.1 _).low KW.out.1.size)))))))
    refine wpQuiet_nil ?_
    intro w3 h3
    have k3 := hf.here h3
    have K3 := hid (KW.out.then_ (k3.low KW.out.1.size))
    clear k3 h3 hf b0 b1 b2 b3 b4 b5 b6 b7 b8 b9 b10 b11 b12 b13 b14 l1 z0 z1 z2 z3 z4 z5 z6 z7 z8 z9 z10 z11 z12 z13 z14
    go_wp2_with fail
    go_ret
    refine ⟨?_, K3.out⟩
    have h := HQ.out
    cases q <;> cases c2 <;> simp at h ⊢
end Go.Proofs.YtfncelifflebbaaGreat.Fx


/- IndexFunc and ContainsFunc over orders; are all of them right? -/




namespace Go.Proofs.YtfncelifflebbaaGreat.Fx
open Go.ChangeShapes Go.WideShapes Go.ChangeAt Go.RowKit
set_option linter.unusedVariables false

theorem ElT.o15 {w : World} {b o : Nat} {x : Or} (h : ElT encO w b o x) : w.cell? ⟨b, o, none⟩ = some (.int .i64 x.kd) ∧ w.cell? ⟨b, o + 1, none⟩ = some (.int .i64 x.id) ∧ w.cell? ⟨b, o + 2, none⟩ = some (.int .i64 x.a) ∧ w.cell? ⟨b, o + 3, none⟩ = some (.int .i64 x.b) ∧ w.cell? ⟨b, o + 4, none⟩ = some (.int .i64 x.x) ∧ w.cell? ⟨b, o + 5, none⟩ = some (.int .i64 x.y) ∧ w.cell? ⟨b, o + 6, none⟩ = some (.int .i64 x.vx) ∧ w.cell? ⟨b, o + 7, none⟩ = some (.int .i64 x.vy) ∧ w.cell? ⟨b, o + 8, none⟩ = some (.int .i64 x.an) ∧ w.cell? ⟨b, o + 9, none⟩ = some (.int .i64 x.sp) ∧ w.cell? ⟨b, o + 10, none⟩ = some (.int .i64 x.de) ∧ w.cell? ⟨b, o + 11, none⟩ = some (.int .i64 x.ln) ∧ w.cell? ⟨b, o + 12, none⟩ = some (.int .i64 x.k) ∧ w.cell? ⟨b, o + 13, none⟩ = some (.int .i64 x.r) ∧ w.cell? ⟨b, o + 14, none⟩ = some (.slice x.ao x.n x.c) :=
  ⟨h 0 _ rfl, h 1 _ rfl, h 2 _ rfl, h 3 _ rfl, h 4 _ rfl, h 5 _ rfl, h 6 _ rfl, h 7 _ rfl, h 8 _ rfl, h 9 _ rfl, h 10 _ rfl, h 11 _ rfl, h 12 _ rfl, h 13 _ rfl, h 14 _ rfl⟩
set_option maxRecDepth 100000 in
set_option maxHeartbeats 4000000 in
theorem idxO_c (g : Nat) (lb : Array Value) (eg : ∀ args w, (callFunc g args).run Tryz.prog w = .ok (.enter g args) w) (X : Nat → Prop) (St : Nat → World → Prop) (p : Nat → Bool) {l : List Or} {ao : Option Addr} {n c : Nat} {w : World}
    (hn : l.length = n) (hmx : n ≤ 4611686018427387904) (hl : LsT encO 15 w ao l) (hX : 0 < n → Offs X ao) (hS0 : St 0 w)
    (hS : ∀ i x u, l[i]? = some x → But X w u → St i u → Calls Tryz.prog g (#[orV x] ++ lb) u fun e v => e = .returned (.bool (p i)) ∧ But X u v ∧ St (i + 1) v) :
    Calls Tryz.prog 139 #[.slice ao n c, .func (.func g) #[] lb] w fun e v => ∃ r : Int, e = .returned (.int .i64 r) ∧ But X w v ∧ ((r = -1 ∧ (∀ i, i < n → p i = false) ∧ St n v) ∨ ∃ i, i < n ∧ r = i ∧ p i = true ∧ (∀ j, j < i → p j = false) ∧ St (i + 1) v) := by
  have HN := hid hn
  have HL := hid hl
  have HX := hid hX
  have HS := hid hS
  have H0 := hid hS0
  clear hn hl hX hS hS0
  go_enter Tryz.func139, Tryz.ntmps139
  go_wp2_with fail
  go_loopg [5, 8] n (fun gg s5 s8 wx => ∃ k : Nat, k + gg = n ∧ s8 = .int .i64 k ∧ Hid (But X w wx ∧ St k wx ∧ ∀ j, j < k → p j = false))
  case atStart => exact ⟨0, by omega, rfl, But.rfl_ _ _, H0.out, fun j hj => absurd hj (Nat.not_lt_zero _)⟩
  case round =>
    obtain ⟨k, hk, rfl, HB⟩ := hrel
    by_cases hlt : k < n
    · obtain ⟨a, ea⟩ : ∃ a, l[k]? = some a := ⟨_, List.getElem?_eq_getElem (by rw [HN.out]; omega)⟩
      obtain ⟨b, off, rfl, hbl, hLB⟩ := HL.out (by rw [HN.out]; omega)
      have hcall := HS.out k a wr ea HB.out.1 HB.out.2.1
      have hcells := ((hLB.but HB.out.1 (HX.out (by omega) b off _ rfl)) k _ ea).o15
      clear ea hLB
      obtain ⟨x0, x1, x2, x3, x4, x5, x6, x7, x8, x9, x10, x11, x12, x13, x14, x15, x16, x17⟩ := a
      obtain ⟨a0, a1, a2, a3, a4, a5, a6, a7, a8, a9, a10, a11, a12, a13, a14⟩ := hcells
      simp only [] at a0 a1 a2 a3 a4 a5 a6 a7 a8 a9 a10 a11 a12 a13 a14
      obtain ⟨q, eq⟩ : ∃ q, p k = q := ⟨_, rfl⟩
      rw [eq] at hcall
      have EQ := hid eq
      clear eq
      cases q with
      | true =>
        go_wp2_with (go_at_fn g; refine hcall.mono ?_; rintro e w' ⟨rfl, k1, k2⟩)
        go_ret
        exact ⟨_, rfl, HB.out.1.then_ k1, .inr ⟨k, hlt, rfl, EQ.out, HB.out.2.2, k2⟩⟩
      | false =>
        go_wp2_with (go_at_fn g; refine hcall.mono ?_; rintro e w' ⟨rfl, k1, k2⟩)
        go_roundg (n - (k + 1))
        case measure => omega
        case rel =>
          refine ⟨k + 1, by omega, by go_num, HB.out.1.then_ k1, k2, fun j hj => ?_⟩
          by_cases e : j = k
          · subst e; exact EQ.out
          · exact HB.out.2.2 j (by omega)
    · go_wp2_with fail
      go_ret
      have e : k = n := by omega
      subst e
      exact ⟨_, rfl, HB.out.1, .inl ⟨rfl, HB.out.2.2, HB.out.2.1⟩⟩
set_option maxRecDepth 100000 in
set_option maxHeartbeats 4000000 in
theorem containsO_c (g : Nat) (lb : Array Value) (eg : ∀ args w, (callFunc g args).run Tryz.prog w = .ok (.enter g args) w) (X : Nat → Prop) (St : Nat → World → Prop) (p : Nat → Bool) {l : List Or} {ao : Option Addr} {n c : Nat} {w : World}
    (hn : l.length = n) (hmx : n ≤ 4611686018427387904) (hl : LsT encO 15 w ao l) (hX : 0 < n → Offs X ao) (hS0 : St 0 w)
    (hS : ∀ i x u, l[i]? = some x → But X w u → St i u → Calls Tryz.prog g (#[orV x] ++ lb) u fun e v => e = .returned (.bool (p i)) ∧ But X u v ∧ St (i + 1) v) :
    Calls Tryz.prog 113 #[.slice ao n c, .func (.func g) #[] lb] w fun e v => ∃ r, e = .returned (.bool r) ∧ But X w v ∧ ((r = false ∧ (∀ i, i < n → p i = false) ∧ St n v) ∨ (r = true ∧ ∃ i, i < n ∧ p i = true)) := by
  have HC := hid (idxO_c g lb eg X St p (c := c) hn hmx hl hX hS0 hS)
  clear hn hl hX hS hS0
  go_enter Tryz.func113, Tryz.ntmps113
  go_wp2_with fail
  refine HC.out.mono ?_
  rintro e w1 ⟨r, rfl, k1, h⟩
  rcases h with ⟨rfl, h1, h2⟩ | ⟨i, hi, rfl, h1, h2, h3⟩
  · go_wp2_with fail
    go_ret
    exact ⟨_, rfl, k1, .inl ⟨rfl, h1, h2⟩⟩
  · go_wp2_with fail
    go_ret
    exact ⟨_, rfl, k1, .inr ⟨by simp, i, hi, h1⟩⟩
def OrsAt (w : World) (ao : Option Addr) (l : List Or) : Prop := LsT encO 15 w ao l ∧ ∀ o ∈ l, OrI o ∧ o.n ≤ 1073741824 ∧ Sl w o.ao o.n o.f
theorem OrsAt.kept {w v : World} {ao : Option Addr} {l : List Or} (h : OrsAt w ao l) (k : Made w.heap.size w v) : OrsAt v ao l :=
  ⟨h.1.kept k, fun o ho => ⟨(h.2 o ho).1, (h.2 o ho).2.1, fun hn => by obtain ⟨b, off, e, hp⟩ := (h.2 o ho).2.2 hn; exact ⟨b, off, e, hp.kept k⟩⟩⟩
set_option maxRecDepth 100000 in
set_option maxHeartbeats 8000000 in
theorem wrong_c (q : Bool) (o : Or) {w : World} (hmx : o.n ≤ 1073741824) (hi : OrI o) (hs : Sl w o.ao o.n o.f) (hq : q = true ↔ OrderP o) : Calls Tryz.prog 114 #[orV o] w fun e v => e = .returned (.bool (!q)) ∧ Made w.heap.size w v := by
  have HC := hid (fun v (k : Made w.heap.size w v) => oright_c q o (w := v) hmx hi (fun hn => by obtain ⟨b, off, e, hp⟩ := hs hn; exact ⟨b, off, e, hp.kept k⟩) hq)
  clear hmx hi hs hq
  obtain ⟨kd, id, a, b, x, y, vx, vy, an, sp, de, ln, k, r, ao, n, c, f⟩ := o
  obtain ⟨W, eW⟩ : ∃ W, W = w.alloc (.cells #[.int .i64 kd, .int .i64 id, .int .i64 a, .int .i64 b, .int .i64 x, .int .i64 y, .int .i64 vx, .int .i64 vy, .int .i64 an, .int .i64 sp, .int .i64 de, .int .i64 ln, .int .i64 k, .int .i64 r, .slice ao n c] 29) := ⟨_, rfl⟩
  have KW : Hid (Made w.heap.size w W) := by unfold Hid; rw [eW]; exact (Made.rfl_ _ _).cells (Nat.le_refl _) _ _
  have HB : Hid (Has W w.heap.size 29 #[.int .i64 kd, .int .i64 id, .int .i64 a, .int .i64 b, .int .i64 x, .int .i64 y, .int .i64 vx, .int .i64 vy, .int .i64 an, .int .i64 sp, .int .i64 de, .int .i64 ln, .int .i64 k, .int .i64 r, .slice ao n c]) := by unfold Hid; rw [eW]; exact has_new _ _ _
  obtain ⟨g1, eg1⟩ : ∃ g, w.heap.size = g := ⟨_, rfl⟩
  have HG1 := hid eg1
  rw [eg1] at HB
  have b0 := HB.out.at_ 0
  have b1 := HB.out.at_ 1
  have b2 := HB.out.at_ 2
  have b3 := HB.out.at_ 3
  have b4 := HB.out.at_ 4
  have b5 := HB.out.at_ 5
  have b6 := HB.out.at_ 6
  have b7 := HB.out.at_ 7
  have b8 := HB.out.at_ 8
  have b9 := HB.out.at_ 9
  have b10 := HB.out.at_ 10
  have b11 := HB.out.at_ 11
  have b12 := HB.out.at_ 12
  have b13 := HB.out.at_ 13
  have b14 := HB.out.at_ 14
  simp at b0 b1 b2 b3 b4 b5 b6 b7 b8 b9 b10 b11 b12 b13 b14
  have l1 : g1 < W.heap.size := HB.out.here
  go_enter Tryz.func114, Tryz.ntmps114
  go_upto_region 1 with fail
  rw [← eW]
  clear eW
  try rw [eg1]
  clear eg1
  go_wp2_with fail
  refine (HC.out _ KW.out).mono ?_
  rintro e w1 ⟨rfl, k1⟩
  have K1 := hid (KW.out.then_ (k1.low KW.out.1.size))
  clear k1 b0 b1 b2 b3 b4 b5 b6 b7 b8 b9 b10 b11 b12 b13 b14 l1
  go_wp2_with fail
  go_ret
  exact ⟨rfl, K1.out⟩
set_option maxRecDepth 100000 in
theorem anyWrong_c {l : List Or} {ao : Option Addr} {n c : Nat} {w : World} (hn : l.length = n) (hmx : n ≤ 4611686018427387904) (hl : OrsAt w ao l) :
    Calls Tryz.prog 113 #[.slice ao n c, .func (.func 114) #[] #[]] w fun e v => ∃ r, e = .returned (.bool r) ∧ Made w.heap.size w v ∧ (r = true ↔ ∃ o ∈ l, ¬ OrderP o) := by
  have hdec : ∀ i : Nat, ∃ t : Bool, t = true ↔ ∃ o, l[i]? = some o ∧ ¬ OrderP o := fun (i : Nat) => a_bool (∃ o, l[i]? = some o ∧ ¬ OrderP o)
  refine (containsO_c 114 #[] (by intro args w; rfl) Nil0 (fun _ _ => True) (fun i => Classical.choose (hdec i)) (c := c) (w := w) hn hmx hl.1 (fun _ => Offs.nil _) trivial (fun i x u hx hB _ => ?_)).mono ?_
  · obtain ⟨h1, h2, h3⟩ := (hl.kept hB.made).2 x (List.mem_of_getElem? hx)
    obtain ⟨q, hq⟩ := a_bool (OrderP x)
    refine (wrong_c q x h2 h1 h3 hq).mono ?_
    rintro e v ⟨rfl, k⟩
    refine ⟨?_, Made.but k, trivial⟩
    have hc := Classical.choose_spec (hdec i)
    have h4 : Classical.choose (hdec i) = !q := by
      cases q with
      | true =>
        have hx' := hq.1 rfl
        rw [Bool.not_true]
        exact Bool.eq_false_iff.2 fun h => by
          obtain ⟨o, ho, hno⟩ := hc.1 h
          rw [hx] at ho
          cases ho
          exact hno hx'
      | false =>
        rw [Bool.not_false]
        exact hc.2 ⟨x, hx, fun h => by have := hq.2 h; cases this⟩
    rw [h4]
  · rintro e v ⟨r, rfl, k, h⟩
    refine ⟨r, rfl, k.made, ?_⟩
    rcases h with ⟨rfl, h1, _⟩ | ⟨rfl, i, hi, h1⟩
    · refine ⟨fun e => (by cases e), fun ⟨o, ho, hno⟩ => ?_⟩
      obtain ⟨i, hi⟩ := List.mem_iff_getElem?.1 ho
      have h2 := h1 i (by rw [← hn]; exact (List.getElem?_eq_some_iff.1 hi).1)
      have h3 := (Classical.choose_spec (hdec i)).2 ⟨o, hi, hno⟩
      rw [h2] at h3
      cases h3
    · obtain ⟨o, ho, hno⟩ := (Classical.choose_spec (hdec i)).1 h1
      exact ⟨fun _ => ⟨o, List.mem_of_getElem? ho, hno⟩, fun _ => rfl⟩
end Go.Proofs.YtfncelifflebbaaGreat.Fx

