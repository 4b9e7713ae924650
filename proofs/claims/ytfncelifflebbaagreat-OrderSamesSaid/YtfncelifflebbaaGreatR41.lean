/- OtS -/
import Derived.Test.YtfncelifflebbaaGreatR38
import Derived.Test.YtfncelifflebbaaGreatR39
import Derived.Test.YtfncelifflebbaaGreatR40

/- OrderSames. -/




namespace Go.Proofs.YtfncelifflebbaaGreat.Fx
open Go.ChangeShapes Go.WideShapes Go.ChangeAt Go.RowKit
set_option linter.unusedVariables false

/-- the makings of 'a, b := Order(d), Order(o)' -/
def alOs (A B : Or) (Z : Nat) (i : Nat) (v : World) (g : Nat) (e : MI.Ex) : Prop := (i = 1 → OrdV A Z g e.hi v e.v) ∧ (i = 3 → OrdV B Z g e.hi v e.v) ∧ (4 ≤ i → Has v g 29 #[.int .i64 0, .int .i64 0, .int .i64 0, .int .i64 0, .int .i64 0, .int .i64 0, .int .i64 0, .int .i64 0, .int .i64 0, .int .i64 0, .int .i64 0, .int .i64 0, .int .i64 0, .int .i64 0, .slice none 0 0] ∧ e.hi = g + 1)
theorem alOs_lasts (A B : Or) (Z : Nat) : MI.Lasts (alOs A B Z) := fun i u v g e h hh k => ⟨fun hi => (h.1 hi).kept k, fun hi => (h.2.1 hi).kept k, fun hi => ⟨(h.2.2 hi).1.stays k (h.2.2 hi).1.here, (h.2.2 hi).2⟩⟩
def valOs (i g : Nat) (e : MI.Ex) : Value := if i < 4 then e.v else .pointer (some ⟨g, 0, none⟩)
/-- the one making of the comparison: an order -/
def alQs (A : Or) (Z : Nat) (i : Nat) (v : World) (g : Nat) (e : MZ.Ex) : Prop := OrdV A Z g e.hi v e.v
theorem alQs_lasts (A : Or) (Z : Nat) : MZ.Lasts (alQs A Z) := fun i u v g e h hh k => OrdV.kept h k
def valQs (i g : Nat) (e : MZ.Ex) : Value := e.v
theorem app_zero (ao : Option Addr) (c : Nat) (ty : TypeId) (w : World) : (Builtin.append_ #[25, 25] ty #[.slice none 0 0, .slice ao 0 c]).run Tryz.prog w = .ok (.slice none 0 0) w := by
  cases ao <;> kernel_rfl
theorem one2 : ∀ u ∈ [Value.int .i64 0, Value.int .i64 0], u.oneCell' = true := by
  intro u hu
  rcases List.mem_cons.1 hu with rfl | hu
  · rfl
  · rcases List.mem_cons.1 hu with rfl | hu
    · rfl
    · cases hu
theorem ex2 {o : Or} {G G' : PG} {er : Int} (hk : o.kd = 2) (hno : o.id ∉ ids G.P.B) (h : ExecP o G er G') : G' = G := by
  rcases h with ⟨h, _⟩ | ⟨_, _, gone, P', hr, rfl⟩ | ⟨h, _⟩ | ⟨h, _⟩ | ⟨h, _⟩ | ⟨h, _⟩
  · omega
  · rcases hr with ⟨_, _, rfl⟩ | ⟨h, _⟩
    · rfl
    · exact absurd h hno
  all_goals omega
theorem ex4 {o : Or} {G G' : PG} {er : Int} (hk : o.kd = 4) (hno : ∀ x ∈ G.P.J, x.id ≠ o.id) (h : ExecP o G er G') : G' = G := by
  rcases h with ⟨h, _⟩ | ⟨h, _⟩ | ⟨h, _⟩ | ⟨_, _, gone, P', hr, rfl⟩ | ⟨h, _⟩ | ⟨h, _⟩
  · omega
  · omega
  · omega
  · rcases hr with ⟨_, _, rfl⟩ | ⟨⟨x, hx, e⟩, _⟩
    · rfl
    · exact absurd e (hno x hx)
  all_goals omega
theorem ex5 {o : Or} {G G' : PG} {er : Int} (hk : o.kd = 5) (hno : o.id ∉ ids G.P.B) (h : ExecP o G er G') : G' = G := by
  rcases h with ⟨h, _⟩ | ⟨h, _⟩ | ⟨h, _⟩ | ⟨h, _⟩ | ⟨_, _, P', hr, rfl⟩ | ⟨h, _⟩
  · omega
  · omega
  · omega
  · omega
  · rcases hr with ⟨_, rfl⟩ | ⟨i, b, hb, e, _⟩
    · rfl
    · exact absurd (List.mem_map.2 ⟨b, List.mem_of_getElem? hb, e⟩) hno
  · omega
theorem ex3 {o : Or} {G G' : PG} {er : Int} (hk : o.kd = 3) (hno : o.a ∉ ids G.P.B) (h : ExecP o G er G') : G' = G := by
  rcases h with ⟨h, _⟩ | ⟨h, _⟩ | ⟨_, n, P', hr, rfl⟩ | ⟨h, _⟩ | ⟨h, _⟩ | ⟨h, _⟩
  · omega
  · omega
  · rcases hr with ⟨_, _, _, rfl⟩ | ⟨_, _, _, _, rfl⟩ | ⟨_, _, _, _, _, rfl⟩ | ⟨_, ⟨h, _⟩, _⟩
    · rfl
    · rfl
    · rfl
    · exact absurd h hno
  all_goals omega
theorem wrap_ne {x : Int} (h : I64 x) : wrap64 (x + 1) ≠ x := by
  unfold I64 at h
  unfold wrap64
  omega
theorem OrdV.sl {O : Or} {B lo hi : Nat} {v : World} {ao : Option Addr} {c : Nat} (h : OrdV O B lo hi v (.agg (encO (O.on ao c)).toArray)) : Sl v ao O.n O.f := by
  obtain ⟨ao', c', e, hs, _⟩ := h
  have e := Value.agg.inj e
  have e : encO (O.on ao c) = encO (O.on ao' c') := by simpa using e
  simp [encO, Or.on] at e
  rw [e.1]
  exact hs
theorem EqO.symm {a b : Or} (h : EqO a b) : EqO b a := by
  obtain ⟨h0, h1, h2, h3, ⟨h4, h4'⟩, ⟨h5, h5'⟩, h6, h7, h8, h9, h10, h11, h12, h13⟩ := h
  exact ⟨h0.symm, h1.symm, h2.symm, h3.symm, ⟨h4.symm, h4'.symm⟩, ⟨h5.symm, h5'.symm⟩, h6.symm, h7.symm, h8.symm, h9.symm, h10.symm, h11.symm, h12.symm, fun i hi => (h13 i (by omega)).symm⟩
theorem Sl.off {w v : World} {g n : Nat} {ao : Option Addr} {f : Cs} (h : Sl w ao n f) (k : But (fun b => b = g) w v) (hx : 0 < n → ∀ b off s, ao = some ⟨b, off, s⟩ → b < g) : Sl v ao n f := fun hn => by
  obtain ⟨b, off, e, hp⟩ := h hn
  exact ⟨b, off, e, hp.but k (by have := hx hn b off none e; omega)⟩
theorem wpList_append_none {P : Program} {ops : Array Oper} {rest : List Oper} {o : Oper} {a : Act} {w : World} {Q : Exit → Act → World → Prop} (hgd : o.guard = none) (s x : Operand) (t : TypeId) (ho : o.op = .call { callee := .builtin .append, args := #[s, x], argTypes := #[t, t] }) (v' : Value)
    (hr : ∀ ty, (Builtin.append_ #[t, t] ty #[a.eval s, a.eval x]).run P w = .ok v' w) (h : wpList P ops Q rest (a.put o.dst v') w) : wpList P ops Q (o :: rest) a w := by
  refine wpList_plain hgd fun _ hK => ?_
  unfold Oper.wp execOp
  simp only [ho, resolve, invoke, builtin, Sem.run_bind, Sem.run_pure, Result.andThen_ok, List.map_toArray, List.map_cons, List.map_nil, hr]
  exact hK _ _ h
theorem wpQuiet_loadg {P : Program} {ops : Array Oper} {C : World → Prop} {Q : Act → Prop} {a : Act} {o : Oper} {rest : List Oper} (hw : Region.wanted o (yielded ops a.tmps) = true) (ty : TypeId) (x : Operand) (ho : o.op = .load ty x) (g : Nat) (hx : a.eval x = .pointer (some ⟨g, 0, none⟩)) (ar : Array Value) (t : TypeId) (d : TypeDesc)
    (hc : ∀ u, C u → Has u g t ar) (hu : P.underlying ty = some d) (hd : (match d with | .struct _ | .array _ _ => true | _ => false) = true) (hi : (P.info? ty).map (·.size) = some ar.size) (h : wpQuiet P ops C Q rest (a.put o.dst (.agg ar))) : wpQuiet P ops C Q (o :: rest) a := by
  unfold wpQuiet
  rw [if_pos hw]
  refine ⟨.agg ar, fun u hcu => ?_, h⟩
  have hl := run_loadVar_at (P := P) u ⟨g, 0, none⟩ ty ar.toList d (fun j v hj => by rw [Addr.add_lit, Nat.zero_add, (hc u hcu).at_]; simpa using hj) hu hd (by simpa using hi)
  unfold Oper.quietAt Oper.quietUpon execOp
  simp only [ho, hx, Instr.loadAt, Instr.sureAddr, Sem.run_bind, Sem.run_pure, Result.andThen_ok, hl, Array.toArray_toList]
  first | trivial | exact ⟨rfl, rfl⟩ | exact ⟨trivial, trivial⟩
set_option maxRecDepth 100000 in
set_option maxHeartbeats 64000000 in
theorem osames_walk (d o : De) (l : List De) (lo : Option Addr) (nl cl : Nat) (w : World) (hds : Sl w d.rao d.rn d.rf) (hdi : DeI d) (hos : Sl w o.rao o.rn o.rf) (hoi : DeI o) (hnl : l.length = nl) (hD : DesAt w lo l) (hnc : nl ≤ cl) (hcm : cl ≤ maxLen) (ho : (lo = none ∧ nl = 0 ∧ cl = 0) ∨ ∃ a, lo = some a) :
    Calls Tryz.prog 7 #[.agg (encD d).toArray, .agg (encD o).toArray, .slice lo nl cl] w fun e v => e = .returned (.bool true) ∧ Below w.heap.size w v := by
  obtain ⟨A, hAi, hAn, hA⟩ := order_mk d hdi
  obtain ⟨Bo, hBi, hBn, hB⟩ := order_mk o hoi
  have HMd := hid (fun v (k : Made w.heap.size w v) => made_0 8 (by omega) hnl (hD.kept k) hnc hcm ho)
  have HAo := hid (fun v (k : Made w.heap.size w v) => hA w.heap.size v (Sl.kept hds k) (fun hn b off s e => by obtain ⟨b', off', e', hp⟩ := hds hn; rw [e] at e'; cases e'; exact World.block_lt_of_cell? _ _ (hp 0 hn).1))
  have HB := hid (fun v (k : Made w.heap.size w v) => hB w.heap.size v (Sl.kept hos k) (fun hn b off s e => by obtain ⟨b', off', e', hp⟩ := hos hn; rw [e] at e'; cases e'; exact World.block_lt_of_cell? _ _ (hp 0 hn).1))
  have HAi := hid hAi; have HAn := hid hAn; have HBi := hid hBi; have HBn := hid hBn
  obtain ⟨da, eda⟩ : ∃ z, (encD d).toArray = z := ⟨_, rfl⟩
  obtain ⟨oa, eoa⟩ : ∃ z, (encD o).toArray = z := ⟨_, rfl⟩
  have HSD : Hid (da.size = 30) := by unfold Hid; rw [← eda]; rfl
  have HSO : Hid (oa.size = 30) := by unfold Hid; rw [← eoa]; rfl
  have HD29 : Hid (da[29]? = some (.slice d.rao d.rn d.rc)) := by unfold Hid; rw [← eda]; rfl
  have HO29 : Hid (oa[29]? = some (.slice o.rao o.rn o.rc)) := by unfold Hid; rw [← eoa]; rfl
  rw [eda] at HAo
  rw [eoa] at HB
  rw [eda, eoa]
  clear eda eoa hA hB hAi hAn hBi hBn hds hdi hos hoi hnl hD hnc hcm ho
  obtain ⟨W, eW⟩ : ∃ W, W = (w.alloc (.cells da 37)).alloc (.cells oa 37) := ⟨_, rfl⟩
  have KW : Hid (Made w.heap.size w W) := by unfold Hid; rw [eW]; exact ((Made.rfl_ _ _).cells (Nat.le_refl _) _ _).cells (by simp) _ _
  have HD : Hid (Has W w.heap.size 37 da) := by unfold Hid; rw [eW]; exact (has_new _ _ _).more _
  have HO : Hid (Has W (w.heap.size + 1) 37 oa) := by unfold Hid; rw [eW]; exact has_nxt' _ _ _ _
  obtain ⟨g1, eg1⟩ : ∃ g, w.heap.size = g := ⟨_, rfl⟩
  obtain ⟨g2, eg2⟩ : ∃ g, g1 + 1 = g := ⟨_, rfl⟩
  rw [eg1] at HD
  rw [eg1, eg2] at HO
  go_enter Tryz.func7, Tryz.ntmps7
  go_upto_region 1 with fail
  rw [← eW]
  clear eW
  try rw [eg1]
  try rw [eg2]
  clear eg1 eg2
  go_wp2_with fail
  refine (fit10_c _).mono ?_
  rintro e w1 ⟨rfl, k1⟩
  have K1 := hid (KW.out.then_ (k1.low KW.out.1.size))
  have HD1 := hid (HD.out.stays k1 HD.out.here)
  have HO1 := hid (HO.out.stays k1 HO.out.here)
  clear k1 HD HO KW
  have d29 : w1.cell? ⟨g1, 29, none⟩ = some (.slice d.rao d.rn d.rc) := by rw [HD1.out.at_]; exact HD29.out
  have o29 : w1.cell? ⟨g2, 29, none⟩ = some (.slice o.rao o.rn o.rc) := by rw [HO1.out.at_]; exact HO29.out
  have ld : g1 < w1.heap.size := HD1.out.here
  have lo' : g2 < w1.heap.size := HO1.out.here
  by_cases h12 : 12 < d.rn
  · go_wp2_with fail
    go_ret
    exact ⟨rfl, K1.out.1⟩
  by_cases h13 : 12 < o.rn
  · go_wp2_with fail
    go_ret
    exact ⟨rfl, K1.out.1⟩
  have HA12 : Hid (A.n ≤ 12) := by have := HAn.out; unfold Hid; omega
  have HB12 : Hid (Bo.n ≤ 12) := by have := HBn.out; unfold Hid; omega
  go_wp2_with fail
  clear d29 o29 h12 h13 HAn HBn
  refine MI.reg_mk (alOs A Bo w.heap.size) 6 [0, 2, 1, 3, 4, 5] [0, 2] [1, 3, 4, 5] [] (fun _ => []) (val := valOs) (by kernel_rfl) (by kernel_rfl) (fun p hp => absurd hp (by simp)) ?_
  refine MI.can_class (rest := [1, 3, 4, 5]) [0, 2] [] 99 (alOs_lasts _ _ _) (MI.any_class _) (by kernel_rfl) rfl (by kernel_rfl) (by kernel_rfl) ?_
  apply Exists.intro
  refine ⟨?q1, ?q2⟩
  case q1 =>
    intro Ty hT fw hf _
    change wpQuiet _ _ _ _ [_, _] _
    refine wpQuiet_load rfl 37 (.tmp 3) rfl g1 rfl da 37 _ (Class.has hf HD1.out) Tryz.underlying37 rfl (by rw [HSD.out]; kernel_rfl) ?_
    simp only [Act.put, List.setIfInBounds_toArray, List.set_cons_succ, List.set_cons_zero]
    refine wpQuiet_load rfl 37 (.tmp 4) rfl g2 rfl oa 37 _ (Class.has hf HO1.out) Tryz.underlying37 rfl (by rw [HSO.out]; kernel_rfl) ?_
    simp only [Act.put, List.setIfInBounds_toArray, List.set_cons_succ, List.set_cons_zero]
    exact wpQuiet_nil rfl
  refine MI.can_mk 1 30 _ rfl rfl rfl rfl ?m1 fun q1 e1 => ?n1
  case m1 =>
    intro G' u _ hu
    rw [show (execOp _ _).run Tryz.prog u = .ok (.enter 9 #[.agg da]) u by kernel_rfl]
    show Calls _ _ _ _ _
    refine (HAo.out u (K1.out.then_ (hu.1.low K1.out.1.size))).mono ?_
    rintro e v ⟨x, rfl, h1, h2⟩
    exact ⟨u.heap.size, ⟨v.heap.size, x, []⟩, rfl, hu.next (alOs_lasts _ _ _) h2 (Nat.le_refl _) h2.1.size (Nat.le_refl _) ⟨fun _ => h1, fun h => absurd h (by omega), fun h => absurd h (by omega)⟩⟩
  rw [show valOs 1 q1 e1 = e1.v from rfl]
  simp only [Act.put, List.setIfInBounds_toArray, List.set_cons_succ, List.set_cons_zero]
  refine MI.can_mk 3 32 _ rfl rfl rfl rfl ?m3 fun q3 e3 => ?n3
  case m3 =>
    intro G' u _ hu
    rw [show (execOp _ _).run Tryz.prog u = .ok (.enter 9 #[.agg oa]) u by kernel_rfl]
    show Calls _ _ _ _ _
    refine (HB.out u (K1.out.then_ (hu.1.low K1.out.1.size))).mono ?_
    rintro e v ⟨x, rfl, h1, h2⟩
    exact ⟨u.heap.size, ⟨v.heap.size, x, []⟩, rfl, hu.next (alOs_lasts _ _ _) h2 (Nat.le_refl _) h2.1.size (Nat.le_refl _) ⟨fun h => absurd h (by omega), fun _ => h1, fun h => absurd h (by omega)⟩⟩
  rw [show valOs 3 q3 e3 = e3.v from rfl]
  simp only [Act.put, List.setIfInBounds_toArray, List.set_cons_succ, List.set_cons_zero]
  refine MI.can_mk 4 7 _ rfl rfl rfl rfl ?m4 fun q4 e4 => ?n4
  case m4 =>
    intro G' u _ hu
    rw [show (execOp _ _).run Tryz.prog u = .ok (.value (.pointer (some ⟨u.heap.size, 0, none⟩))) (u.alloc (.cells #[.int .i64 0, .int .i64 0, .int .i64 0, .int .i64 0, .int .i64 0, .int .i64 0, .int .i64 0, .int .i64 0, .int .i64 0, .int .i64 0, .int .i64 0, .int .i64 0, .int .i64 0, .int .i64 0, .slice none 0 0] 29)) by kernel_rfl]
    exact ⟨u.heap.size, ⟨u.heap.size + 1, .bool false, []⟩, rfl, hu.next (alOs_lasts _ _ _) ((Made.rfl_ _ _).cells (Nat.le_refl _) _ _) (Nat.le_refl _) (by simp) (by simp) ⟨fun h => absurd h (by omega), fun h => absurd h (by omega), fun _ => ⟨has_new _ _ _, rfl⟩⟩⟩
  rw [show valOs 4 q4 e4 = .pointer (some ⟨q4, 0, none⟩) from rfl]
  simp only [Act.put, List.setIfInBounds_toArray, List.set_cons_succ, List.set_cons_zero]
  refine MI.can_mk 5 8 _ rfl rfl rfl rfl ?m5 fun q5 e5 => ?n5
  case m5 =>
    intro G' u _ hu
    rw [show (execOp _ _).run Tryz.prog u = .ok (.value (.pointer (some ⟨u.heap.size, 0, none⟩))) (u.alloc (.cells #[.int .i64 0, .int .i64 0, .int .i64 0, .int .i64 0, .int .i64 0, .int .i64 0, .int .i64 0, .int .i64 0, .int .i64 0, .int .i64 0, .int .i64 0, .int .i64 0, .int .i64 0, .int .i64 0, .slice none 0 0] 29)) by kernel_rfl]
    exact ⟨u.heap.size, ⟨u.heap.size + 1, .bool false, []⟩, rfl, hu.next (alOs_lasts _ _ _) ((Made.rfl_ _ _).cells (Nat.le_refl _) _ _) (Nat.le_refl _) (by simp) (by simp) ⟨fun h => absurd h (by omega), fun h => absurd h (by omega), fun _ => ⟨has_new _ _ _, rfl⟩⟩⟩
  rw [show valOs 5 q5 e5 = .pointer (some ⟨q5, 0, none⟩) from rfl]
  simp only [Act.put, List.setIfInBounds_toArray, List.set_cons_succ, List.set_cons_zero]
  intro w4 hu
  have k4 := hu.1
  have t1 : (MI.upd (MI.upd (MI.upd (MI.upd (fun _ => none) 1 (q1, e1)) 3 (q3, e3)) 4 (q4, e4)) 5 (q5, e5)) 1 = some (q1, e1) := by unfold MI.upd; simp
  obtain ⟨l1, m1, x1, a1⟩ := hu.2.1 1 _ t1
  have t3 : (MI.upd (MI.upd (MI.upd (MI.upd (fun _ => none) 1 (q1, e1)) 3 (q3, e3)) 4 (q4, e4)) 5 (q5, e5)) 3 = some (q3, e3) := by unfold MI.upd; simp
  obtain ⟨l3, m3, x3, a3⟩ := hu.2.1 3 _ t3
  have t4 : (MI.upd (MI.upd (MI.upd (MI.upd (fun _ => none) 1 (q1, e1)) 3 (q3, e3)) 4 (q4, e4)) 5 (q5, e5)) 4 = some (q4, e4) := by unfold MI.upd; simp
  obtain ⟨l4, m4, x4, a4⟩ := hu.2.1 4 _ t4
  have t5 : (MI.upd (MI.upd (MI.upd (MI.upd (fun _ => none) 1 (q1, e1)) 3 (q3, e3)) 4 (q4, e4)) 5 (q5, e5)) 5 = some (q5, e5) := by unfold MI.upd; simp
  obtain ⟨l5, m5, x5, a5⟩ := hu.2.1 5 _ t5
  obtain ⟨ao1, c1, ev1, hs1, ho1, hw1⟩ := a1.1 rfl
  obtain ⟨ao3, c3, ev3, hs3, ho3, hw3⟩ := a3.2.1 rfl
  obtain ⟨hg4, hf4⟩ := a4.2.2 (by omega)
  obtain ⟨hg5, hf5⟩ := a5.2.2 (by omega)
  simp only [] at ev1 hs1 ho1 hw1 ev3 hs3 ho3 hw3 hg4 hf4 hg5 hf5 l1 l3 l4 l5
  have hap : ¬ q4 = q5 := by
    rcases hu.2.2 4 5 _ _ t4 t5 (by omega) with h | h
    · simp only [hf4] at h; omega
    · simp only [hf5] at h; omega
  have hoff : ∀ (i j q : Nat) (e : MI.Ex) (z : Nat) (f : MI.Ex), (MI.upd (MI.upd (MI.upd (MI.upd (fun _ => none) 1 (q1, e1)) 3 (q3, e3)) 4 (q4, e4)) 5 (q5, e5)) i = some (q, e) → (MI.upd (MI.upd (MI.upd (MI.upd (fun _ => none) 1 (q1, e1)) 3 (q3, e3)) 4 (q4, e4)) 5 (q5, e5)) j = some (z, f) → i ≠ j → w1.heap.size ≤ z → f.hi = z + 1 → ∀ (n : Nat) (ao : Option Addr), (0 < n → ∀ b off s, ao = some (⟨b, off, s⟩ : Addr) → b < w.heap.size ∨ (q ≤ b ∧ b < e.hi)) → 0 < n → ∀ b off s, ao = some (⟨b, off, s⟩ : Addr) → ¬ b = z := fun i j q e z f ti tj hij hz hf n ao hw hn b off s ea hb => by
    have hk1 := K1.out.1.size
    rcases hw hn b off s ea with h | h
    · omega
    · rcases hu.2.2 i j _ _ ti tj hij with h' | h'
      · simp only [] at h'; omega
      · simp only [hf] at h'; omega
  have HOf : Hid ((0 < A.n → ∀ b off s, ao1 = some ⟨b, off, s⟩ → ¬ b = q4 ∧ ¬ b = q5) ∧ (0 < Bo.n → ∀ b off s, ao3 = some ⟨b, off, s⟩ → ¬ b = q4 ∧ ¬ b = q5)) :=
    ⟨fun hn b off s e => ⟨hoff 1 4 q1 e1 q4 e4 t1 t4 (by omega) l4 hf4 _ _ hw1 hn b off s e, hoff 1 5 q1 e1 q5 e5 t1 t5 (by omega) l5 hf5 _ _ hw1 hn b off s e⟩, fun hn b off s e => ⟨hoff 3 4 q3 e3 q4 e4 t3 t4 (by omega) l4 hf4 _ _ hw3 hn b off s e, hoff 3 5 q3 e3 q5 e5 t3 t5 (by omega) l5 hf5 _ _ hw3 hn b off s e⟩⟩
  clear hoff hw1 hw3
  obtain ⟨aa, eaa⟩ : ∃ z, (encO (A.on ao1 c1)).toArray = z := ⟨_, rfl⟩
  obtain ⟨ba, eba⟩ : ∃ z, (encO (Bo.on ao3 c3)).toArray = z := ⟨_, rfl⟩
  obtain ⟨ln, eln⟩ : ∃ z, A.ln = z := ⟨_, rfl⟩
  obtain ⟨an, ean⟩ : ∃ z, A.n = z := ⟨_, rfl⟩
  rw [ev1, ev3, eaa, eba]
  have HSA : Hid (aa.size = 15) := by unfold Hid; rw [← eaa]; rfl
  have HSB : Hid (ba.size = 15) := by unfold Hid; rw [← eba]; rfl
  have HWA : Hid (aa.all (·.oneCell') = true) := by unfold Hid; rw [← eaa]; exact all_oneCell_toArray (encO_one _)
  have HWB : Hid (ba.all (·.oneCell') = true) := by unfold Hid; rw [← eba]; exact all_oneCell_toArray (encO_one _)
  have HA11 : Hid (aa[11]? = some (.int .i64 ln)) := by unfold Hid; rw [← eaa, ← eln]; rfl
  have HA14 : Hid (aa[14]? = some (.slice ao1 an c1)) := by unfold Hid; rw [← eaa, ← ean]; rfl
  have HEA := hid eaa; have HEB := hid eba; have HEL := hid eln; have HEN := hid ean
  have hSA : Sl w4 ao1 an A.f := by rw [← ean]; exact hs1
  have HSlA := hid hSA; have HSlB := hid hs3
  have HokA := hid ho1
  have HG4 := hid hg4; have HG5 := hid hg5
  have HLo := hid (And.intro l4 l5)
  have HTa : Hid (w4.there q4 0 aa.size) := there_of hg4 (by rw [HSA.out]; decide)
  have HTb : Hid ((w4.setCells q4 0 aa.toList).there q5 0 ba.size) := there_of (hg5.setOther (fun h => hap h.symm) _ _) (by rw [HSB.out]; decide)
  have K4 := hid (K1.out.then_ (k4.low K1.out.1.size))
  have h1w : w.heap.size ≤ w1.heap.size := K1.out.1.size
  have hd4 : g1 < w1.heap.size := HD1.out.here
  have ho4 : g2 < w1.heap.size := HO1.out.here
  have HD4 := hid (HD1.out.stays k4 HD1.out.here)
  have HO4 := hid (HO1.out.stays k4 HO1.out.here)
  clear hu t1 t3 t4 t5 a1 a3 a4 a5 m1 m3 m4 m5 x1 x3 x4 x5 l1 l3 ev1 ev3 hs1 hs3 ho1 ho3 hg4 hg5 hf4 hf5 eaa eba eln ean hSA k4 HD1 HO1 K1
  simp only [List.drop_succ_cons, List.drop_zero]
  go_wp2_with (first
    | refine wpList_store_mid rfl 29 (.tmp 7) (.tmp 30) rfl q4 0 aa rfl rfl HTa.out (by rw [HSA.out]; kernel_rfl) HWA.out ?_
    | refine wpList_store_mid rfl 29 (.tmp 8) (.tmp 32) rfl q5 0 ba rfl rfl HTb.out (by rw [HSB.out]; kernel_rfl) HWB.out ?_)
  refine NoPanic.normal ?_
  obtain ⟨W5, eW5⟩ : ∃ V, V = (w4.setCells q4 0 aa.toList).setCells q5 0 ba.toList := ⟨_, rfl⟩
  have l4' := HLo.out.1
  have l5' := HLo.out.2
  have HAa5 : Hid (Has W5 q4 29 aa) := by unfold Hid; rw [eW5]; exact (HG4.out.whole (by rw [HSA.out]; rfl)).setOther hap _ _
  have HBb5 : Hid (Has W5 q5 29 ba) := by unfold Hid; rw [eW5]; exact (HG5.out.setOther (fun h => hap h.symm) _ _).whole (by rw [HSB.out]; rfl)
  have k5 : Made w1.heap.size w4 W5 := by rw [eW5]; exact Made.setCells l5' _ _ (Made.setCells l4' _ _ (Made.rfl_ _ _))
  have K5 := hid (K4.out.then_ (k5.low h1w))
  have HD5 := hid (HD4.out.stays k5 hd4)
  have HO5 := hid (HO4.out.stays k5 ho4)
  have kb5 : But (fun b => b = q4 ∨ b = q5) w4 W5 := by rw [eW5]; exact But.setCells (X := fun b => b = q4 ∨ b = q5) (.inr rfl) _ _ (But.setCells (X := fun b => b = q4 ∨ b = q5) (.inl rfl) _ _ (But.rfl_ _ _))
  have HSlA5 : Hid (Sl W5 ao1 an A.f) := fun hn => by
    obtain ⟨b, off, e, hp⟩ := HSlA.out hn
    have h := HOf.out.1 (by rw [HEN.out]; exact hn) b off none e
    exact ⟨b, off, e, hp.but kb5 (by omega)⟩
  have HSlB5 : Hid (Sl W5 ao3 Bo.n Bo.f) := fun hn => by
    obtain ⟨b, off, e, hp⟩ := HSlB.out hn
    have h := HOf.out.2 hn b off none e
    exact ⟨b, off, e, hp.but kb5 (by omega)⟩
  rw [← eW5]
  clear eW5 k5 kb5 HTa HTb HG4 HG5 HD4 HO4 K4 HSlA HSlB HOf
  have HA := HAa5; have HBv := HBb5; have HDv := HD5; have KK := K5; have SA := HSlA5; have SB := HSlB5
  clear HAa5 HBb5 HD5 HO5 K5 HSlA5 HSlB5 l4' l5' hd4 ho4 ld lo' h1w HLo
  obtain ⟨g6, eg6⟩ : ∃ g, W5.heap.size = g := ⟨_, rfl⟩
  have HT : Hid ((W5.alloc (.cells #[.int .i64 0, .int .i64 0, .int .i64 0, .int .i64 0, .int .i64 0, .int .i64 0, .int .i64 0, .int .i64 0, .int .i64 0, .int .i64 0, .int .i64 0, .int .i64 0, .int .i64 0, .int .i64 0, .slice none 0 0] 29)).there g6 0 aa.size) := by
    unfold Hid; rw [← eg6]; exact there_of (has_new _ _ _) (by rw [HSA.out]; decide)
  go_upto_region 7 with (first
    | refine wpList_load_row rfl 29 (.tmp 7) rfl q4 rfl 29 _ (0, 0) _ HA.out Tryz.underlying29 rfl (by rw [HSA.out]; kernel_rfl) ?_
    | refine wpList_store_mid rfl 29 (.tmp 9) (.tmp 33) rfl g6 0 aa rfl rfl HT.out (by rw [HSA.out]; kernel_rfl) HWA.out ?_)
  obtain ⟨W6, eW6⟩ : ∃ V, V = (W5.alloc (.cells #[.int .i64 0, .int .i64 0, .int .i64 0, .int .i64 0, .int .i64 0, .int .i64 0, .int .i64 0, .int .i64 0, .int .i64 0, .int .i64 0, .int .i64 0, .int .i64 0, .int .i64 0, .int .i64 0, .slice none 0 0] 29)).setCells g6 0 aa.toList := ⟨_, rfl⟩
  have kk : Made W5.heap.size W5 W6 := by rw [eW6]; exact Made.setCells (Nat.le_of_eq eg6) _ _ ((Made.rfl_ _ _).cells (Nat.le_refl _) _ _)
  have HXg6 : Hid (Has W6 g6 29 aa) := by unfold Hid; rw [eW6, ← eg6]; exact (has_new _ _ _).whole (by rw [HSA.out]; rfl)
  have hltg6 : q4 < g6 ∧ q5 < g6 ∧ w.heap.size ≤ g6 ∧ g1 < g6 := by have h1 := HA.out.here; have h2 := HBv.out.here; have h3 := KK.out.1.size; have h4 := HDv.out.here; omega
  have HbAg6 : Hid (0 < an → ∀ b off s, ao1 = some ⟨b, off, s⟩ → b < g6) := fun hn b off s e => by
    obtain ⟨b', off', e', hp⟩ := SA.out hn
    rw [e] at e'
    cases e'
    have h : b < W5.heap.size := World.block_lt_of_cell? _ _ (hp 0 hn).1
    omega
  have HbBg6 : Hid (0 < Bo.n → ∀ b off s, ao3 = some ⟨b, off, s⟩ → b < g6) := fun hn b off s e => by
    obtain ⟨b', off', e', hp⟩ := SB.out hn
    rw [e] at e'
    cases e'
    have h : b < W5.heap.size := World.block_lt_of_cell? _ _ (hp 0 hn).1
    omega
  rw [← eW6]
  have HA := hid (HA.out.stays kk HA.out.here)
  have HBv := hid (HBv.out.stays kk HBv.out.here)
  have HDv := hid (HDv.out.stays kk HDv.out.here)
  have KK := hid (KK.out.then_ (kk.low KK.out.1.size))
  have SA := hid (Sl.kept SA.out kk)
  have SB := hid (Sl.kept SB.out kk)
  clear eW6 eg6 kk HT
  have c11 : W6.cell? ⟨g6, 11, none⟩ = some (.int .i64 ln) := by rw [HXg6.out.at_]; exact HA11.out
  have lc : g6 < W6.heap.size := HXg6.out.here
  have fc : ∀ i, W6.frozen? ⟨g6, i, none⟩ = false := HXg6.out.free
  obtain ⟨l1, el1⟩ : ∃ z, wrap64 (ln + 1) = z := ⟨_, rfl⟩
  go_upto_region 8 with fail
  obtain ⟨W7, eW7⟩ : ∃ V, V = W6.setCell ⟨g6, 11, none⟩ (.int .i64 l1) := ⟨_, rfl⟩
  rw [← eW7]
  have kb : But (fun b => b = g6) W6 W7 := by rw [eW7]; exact (But.rfl_ (fun b => b = g6) _).put (p := ⟨g6, 11, none⟩) (.inl rfl) _
  obtain ⟨ca, eca⟩ : ∃ z, aa.setIfInBounds 11 (.int .i64 l1) = z := ⟨_, rfl⟩
  have HC : Hid (Has W7 g6 29 ca) := by unfold Hid; rw [eW7, ← eca]; exact HXg6.out.put 11 _
  have HEC : Hid ((encO { A.on ao1 c1 with ln := l1 }).toArray = ca) := by unfold Hid; rw [← eca, ← HEA.out]; rfl
  have HSC : Hid (ca.size = 15) := by unfold Hid; rw [← HEC.out]; rfl
  have HNL : Hid (¬ ln = l1) := by
    unfold Hid
    rw [← el1, ← HEL.out]
    exact fun h => wrap_ne HAi.out.ln h.symm
  have HA := hid (HA.out.but kb (by omega))
  have HBv := hid (HBv.out.but kb (by omega))
  have HDv := hid (HDv.out.but kb (by omega))
  have SA := hid (SA.out.off kb HbAg6.out)
  have SB := hid (SB.out.off kb HbBg6.out)
  have KK : Hid (Made w.heap.size w W7) := But.made_ KK.out kb KK.out.1.size (fun b hb => by have hb : b = g6 := hb; omega)
  clear eW7 kb eca c11 lc fc el1 HXg6
  obtain ⟨g8, eg8⟩ : ∃ g, W7.heap.size = g := ⟨_, rfl⟩
  have HT : Hid ((W7.alloc (.cells #[.int .i64 0, .int .i64 0, .int .i64 0, .int .i64 0, .int .i64 0, .int .i64 0, .int .i64 0, .int .i64 0, .int .i64 0, .int .i64 0, .int .i64 0, .int .i64 0, .int .i64 0, .int .i64 0, .slice none 0 0] 29)).there g8 0 aa.size) := by
    unfold Hid; rw [← eg8]; exact there_of (has_new _ _ _) (by rw [HSA.out]; decide)
  go_upto_region 9 with (first
    | refine wpList_load_row rfl 29 (.tmp 7) rfl q4 rfl 29 _ (0, 0) _ HA.out Tryz.underlying29 rfl (by rw [HSA.out]; kernel_rfl) ?_
    | refine wpList_store_mid rfl 29 (.tmp 10) (.tmp 38) rfl g8 0 aa rfl rfl HT.out (by rw [HSA.out]; kernel_rfl) HWA.out ?_)
  obtain ⟨W8, eW8⟩ : ∃ V, V = (W7.alloc (.cells #[.int .i64 0, .int .i64 0, .int .i64 0, .int .i64 0, .int .i64 0, .int .i64 0, .int .i64 0, .int .i64 0, .int .i64 0, .int .i64 0, .int .i64 0, .int .i64 0, .int .i64 0, .int .i64 0, .slice none 0 0] 29)).setCells g8 0 aa.toList := ⟨_, rfl⟩
  have kk : Made W7.heap.size W7 W8 := by rw [eW8]; exact Made.setCells (Nat.le_of_eq eg8) _ _ ((Made.rfl_ _ _).cells (Nat.le_refl _) _ _)
  have HXg8 : Hid (Has W8 g8 29 aa) := by unfold Hid; rw [eW8, ← eg8]; exact (has_new _ _ _).whole (by rw [HSA.out]; rfl)
  have hltg8 : q4 < g8 ∧ q5 < g8 ∧ w.heap.size ≤ g8 ∧ g1 < g8 ∧ g6 < g8 := by have h1 := HA.out.here; have h2 := HBv.out.here; have h3 := KK.out.1.size; have h4 := HDv.out.here; have h5 := HC.out.here; omega
  have HbAg8 : Hid (0 < an → ∀ b off s, ao1 = some ⟨b, off, s⟩ → b < g8) := fun hn b off s e => by
    obtain ⟨b', off', e', hp⟩ := SA.out hn
    rw [e] at e'
    cases e'
    have h : b < W7.heap.size := World.block_lt_of_cell? _ _ (hp 0 hn).1
    omega
  have HbBg8 : Hid (0 < Bo.n → ∀ b off s, ao3 = some ⟨b, off, s⟩ → b < g8) := fun hn b off s e => by
    obtain ⟨b', off', e', hp⟩ := SB.out hn
    rw [e] at e'
    cases e'
    have h : b < W7.heap.size := World.block_lt_of_cell? _ _ (hp 0 hn).1
    omega
  rw [← eW8]
  have HA := hid (HA.out.stays kk HA.out.here)
  have HBv := hid (HBv.out.stays kk HBv.out.here)
  have HDv := hid (HDv.out.stays kk HDv.out.here)
  have HC := hid (HC.out.stays kk HC.out.here)
  have KK := hid (KK.out.then_ (kk.low KK.out.1.size))
  have SA := hid (Sl.kept SA.out kk)
  have SB := hid (Sl.kept SB.out kk)
  have h68 : ¬ g6 = g8 := by omega
  have h18 : ¬ g1 = g8 := by omega
  clear eW8 eg8 kk HT
  have a14 : W8.cell? ⟨q4, 14, none⟩ = some (.slice ao1 an c1) := by rw [HA.out.at_]; exact HA14.out
  have la : q4 < W8.heap.size := HA.out.here
  have lp : g8 < W8.heap.size := HXg8.out.here
  have fp : ∀ i, W8.frozen? ⟨g8, i, none⟩ = false := HXg8.out.free
  have p14 : W8.cell? ⟨g8, 14, none⟩ = some (.slice ao1 an c1) := by rw [HXg8.out.at_]; exact HA14.out
  have HFn : Hid ((fun i => if i < an then A.f i else (0, 0)) an = (0, 0)) := if_neg (Nat.lt_irrefl an)
  try simp only [Act.put]
  go_cut [10] (fun s10 wx => s10 = .pointer (some ⟨g8, 0, none⟩) ∧ ∃ (gp cc : Nat), Hid (Made w.heap.size w wx ∧ Has wx q4 29 aa ∧ Has wx q5 29 ba ∧ Has wx g6 29 ca ∧ Has wx g8 29 (aa.setIfInBounds 14 (.slice (some ⟨gp, 0, none⟩) (an + 1) cc)) ∧ Has wx g1 37 da ∧ Sl wx ao1 an A.f ∧ Sl wx ao3 Bo.n Bo.f ∧ Sl wx (some ⟨gp, 0, none⟩) (an + 1) (fun i => if i < an then A.f i else (0, 0))))
  case first =>
    have HFin : Hid (∀ (wz : World) (gp cc : Nat), Made W8.heap.size W8 wz → Row wz gp 24 (an + 1) (fun i => if i < an then A.f i else (0, 0)) → W8.heap.size ≤ gp → ∀ wx, wx = wz.setCell ⟨g8, 14, none⟩ (.slice (some ⟨gp, 0, none⟩) (an + 1) cc) → (Made w.heap.size w wx ∧ Has wx q4 29 aa ∧ Has wx q5 29 ba ∧ Has wx g6 29 ca ∧ Has wx g8 29 (aa.setIfInBounds 14 (.slice (some ⟨gp, 0, none⟩) (an + 1) cc)) ∧ Has wx g1 37 da ∧ Sl wx ao1 an A.f ∧ Sl wx ao3 Bo.n Bo.f ∧ Sl wx (some ⟨gp, 0, none⟩) (an + 1) (fun i => if i < an then A.f i else (0, 0)))) := fun wz gp cc kz hr hgp wx ex => by
      have kb : But (fun b => b = g8) wz wx := by rw [ex]; exact (But.rfl_ (fun b => b = g8) _).put (p := ⟨g8, 14, none⟩) (.inl rfl) _
      have KZ := KK.out.then_ (kz.low KK.out.1.size)
      refine ⟨But.made_ KZ kb KZ.1.size (fun b hb => by have hb : b = g8 := hb; omega), ((HA.out.stays kz HA.out.here).but kb (by omega)), ((HBv.out.stays kz HBv.out.here).but kb (by omega)), ((HC.out.stays kz HC.out.here).but kb h68), ?_, ((HDv.out.stays kz HDv.out.here).but kb h18), (Sl.kept SA.out kz).off kb HbAg8.out, (Sl.kept SB.out kz).off kb HbBg8.out, fun hn => ⟨gp, 0, rfl, ?_⟩⟩
      · rw [ex]; exact (HXg8.out.stays kz lp).put 14 _
      · exact hr.pts.but kb (by omega)
    obtain ⟨i0, hi, hz0, hz1, hz2⟩ := info_parts info_V
    have iHi := hid hi; have iH0 := hid hz0; have iH1 := hid hz1; have iH2 := hid hz2
    clear hi hz0 hz1 hz2
    rcases Nat.eq_zero_or_pos an with hz | hz
    · have HZ := hid hz
      have a14' : W8.cell? ⟨q4, 14, none⟩ = some (.slice ao1 0 c1) := by rw [a14, hz]
      clear a14 hz
      have HO1 : Hid (Has (W8.alloc (.cells #[.int .i64 0, .int .i64 0] 24)) W8.heap.size 24 #[.int .i64 0, .int .i64 0]) := has_new _ _ _
      go_wp2_with (first
        | (at_builtin; refine wpList_append_none rfl (.const (.slice none 0 0)) (.tmp 41) 25 rfl (.slice none 0 0) (fun ty => app_zero ao1 c1 ty _) ?_)
        | (at_builtin; refine wpList_append_made _ rfl (.tmp 42) (.tmp 44) 25 rfl W8.heap.size 24 i0 (.agg #[.int .i64 0, .int .i64 0]) 2 16 Tryz.underlying25 iHi.out iH0.out iH1.out iH2.out rfl (by decide) (.slice none 0 0) 0 [] rfl (World.ownsRow_nil _ _ _ _) ⟨W8.heap.size, 0, none⟩ 1 1 [.int .i64 0, .int .i64 0] rfl rfl (has_news HO1.out) one2 (by unfold maxLen; omega) (by omega) (by simp) (by omega) ?_))
      intro v' wk hown hgr hfr
      have kk : Made W8.heap.size W8 wk := ((Made.rfl_ _ _).cells (Nat.le_refl _) _ _).app hgr hfr (by simp) (fun k hk => by simp [Value.ownBlock] at hk)
      have hown : wk.ownsRow W8.heap.size 24 2 v' 1 (flat (fun _ => (0, 0)) 1) := hown
      obtain ⟨gp, cc, rfl, hbg, _, _, hrow⟩ := Row.of_own hown (by omega)
      have HRow : Hid (Row wk gp 24 (an + 1) (fun i => if i < an then A.f i else (0, 0))) := by
        unfold Hid
        have h0 := HZ.out
        subst h0
        exact hrow.congr (fun i hi => by rw [if_neg (Nat.not_lt_zero i)])
      clear hown hgr hfr HO1
      have p14 := kk.reads p14
      have lp : g8 < wk.heap.size := Nat.lt_of_lt_of_le lp kk.1.size
      have fp : ∀ i, wk.frozen? ⟨g8, i, none⟩ = false := fun i => (kk.2 _).trans (fp i)
      have HK := hid kk
      have HBg := hid hbg
      clear kk hbg hrow
      go_wp2_with fail
      go_meet
      exact ⟨rfl, gp, cc, HFin.out wk gp cc HK.out HRow.out HBg.out _ (by rw [HZ.out, Nat.zero_add])⟩
    · obtain ⟨b, off, eao, hp⟩ := SA.out hz
      have hpF : Pts W8 b off an (fun i => if i < an then A.f i else (0, 0)) := fun i hi => by
        have e : (fun i => if i < an then A.f i else (0, 0)) i = A.f i := if_pos hi
        rw [e]
        exact hp i hi
      have HPF := hid hpF
      have han : an ≤ 12 := by have h1 := HA12.out; have h2 := HEN.out; omega
      have HZ := hid hz
      clear hp hpF hz
      rw [eao] at a14
      have HEao := hid eao
      clear eao
      go_wp2_with (at_builtin; refine wpList_append_made _ rfl (.const (.slice none 0 0)) (.tmp 41) 25 rfl W8.heap.size 24 i0 (.agg #[.int .i64 0, .int .i64 0]) 2 16 Tryz.underlying25 iHi.out iH0.out iH1.out iH2.out rfl (by decide) (.slice none 0 0) 0 [] rfl (World.ownsRow_nil _ _ _ _) ⟨b, off, none⟩ an c1 (flat (fun i => if i < an then A.f i else (0, 0)) an) rfl (flat_len _ _) HPF.out.flat_at (flat_one _ _) (by unfold maxLen; omega) (by omega) (Nat.le_refl _) HZ.out ?_)
      intro v1 w9 hown1 hg1 hf1
      have k9 : Made W8.heap.size W8 w9 := (Made.rfl_ _ _).app hg1 hf1 (Nat.le_refl _) (fun k hk => by simp [Value.ownBlock] at hk)
      have hown1 : w9.ownsRow W8.heap.size 24 2 v1 an (flat (fun i => if i < an then A.f i else (0, 0)) an) := by simpa using hown1
      have hown1' := hown1
      obtain ⟨g9, c9, rfl, hb9, _, _, _⟩ := Row.of_own hown1' HZ.out
      have hs9 := k9.1.size
      have HOw : Hid ((w9.alloc (.cells #[.int .i64 0, .int .i64 0] 24)).ownsRow W8.heap.size 24 2 (.slice (some ⟨g9, 0, none⟩) an c9) an (flat (fun i => if i < an then A.f i else (0, 0)) an)) := own_but (X := Nil0) hown1 (Made.but ((Made.rfl_ _ _).cells (Nat.le_refl _) _ _)) (fun g _ h => h) (Nat.le_refl _)
      have HO1 : Hid (Has (w9.alloc (.cells #[.int .i64 0, .int .i64 0] 24)) w9.heap.size 24 #[.int .i64 0, .int .i64 0]) := has_new _ _ _
      have HK9 := hid k9
      have HB9 := hid hb9
      clear hown1 hown1' hg1 hf1 k9 hb9
      go_wp2_with (at_builtin; refine wpList_append_made _ rfl (.tmp 42) (.tmp 44) 25 rfl W8.heap.size 24 i0 (.agg #[.int .i64 0, .int .i64 0]) 2 16 Tryz.underlying25 iHi.out iH0.out iH1.out iH2.out rfl (by decide) (.slice (some ⟨g9, 0, none⟩) an c9) an (flat (fun i => if i < an then A.f i else (0, 0)) an) rfl HOw.out ⟨w9.heap.size, 0, none⟩ 1 1 [.int .i64 0, .int .i64 0] rfl rfl (has_news HO1.out) one2 (by unfold maxLen; omega) (by omega) (by simp; omega) (by omega) ?_)
      intro v' wk hown hgr hfr
      have kk : Made W8.heap.size W8 wk := (HK9.out.cells hs9 _ _).app hgr hfr (by simp; omega) (fun k hk => by simp [Value.ownBlock] at hk; rw [← hk]; exact HB9.out)
      have hown : wk.ownsRow W8.heap.size 24 2 v' (an + 1) (flat (fun i => if i < an then A.f i else (0, 0)) (an + 1)) := by
        rw [← flat_next (fun i => if i < an then A.f i else (0, 0)) an (x := 0) (y := 0) (by rw [HFn.out]) (by rw [HFn.out])]
        exact hown
      obtain ⟨gp, cc, rfl, hbg, _, _, hrow⟩ := Row.of_own hown (by omega)
      have HRow := hid hrow
      clear hown hgr hfr HO1
      have p14 := kk.reads p14
      have lp : g8 < wk.heap.size := Nat.lt_of_lt_of_le lp kk.1.size
      have fp : ∀ i, wk.frozen? ⟨g8, i, none⟩ = false := fun i => (kk.2 _).trans (fp i)
      have HK := hid kk
      have HBg := hid hbg
      clear kk hbg hrow
      go_wp2_with fail
      go_meet
      exact ⟨rfl, gp, cc, HFin.out wk gp cc HK.out HRow.out HBg.out _ rfl⟩
  case rest =>
    obtain ⟨rfl, gp, cc, HH⟩ := hcut
    have KK := hid HH.out.1
    have HA := hid HH.out.2.1
    have HBv := hid HH.out.2.2.1
    have HC := hid HH.out.2.2.2.1
    have HP := hid HH.out.2.2.2.2.1
    have HDv := hid HH.out.2.2.2.2.2.1
    have SA := hid HH.out.2.2.2.2.2.2.1
    have SB := hid HH.out.2.2.2.2.2.2.2.1
    have SP := hid HH.out.2.2.2.2.2.2.2.2
    obtain ⟨pa, epa⟩ : ∃ z, aa.setIfInBounds 14 (.slice (some ⟨gp, 0, none⟩) (an + 1) cc) = z := ⟨_, rfl⟩
    rw [epa] at HP
    have HEP : Hid ((encO (⟨A.kd, A.id, A.a, A.b, A.x, A.y, A.vx, A.vy, A.an, A.sp, A.de, A.ln, A.k, A.r, some ⟨gp, 0, none⟩, an + 1, cc, (fun i => if i < an then A.f i else (0, 0))⟩ : Or)).toArray = pa) := by unfold Hid; rw [← epa, ← HEA.out]; rfl
    have HSP : Hid (pa.size = 15) := by unfold Hid; rw [← HEP.out]; rfl
    obtain ⟨q, hq⟩ := a_bool (EqO (A.on ao1 c1) (Bo.on ao3 c3))
    have HQ := hid hq
    have HA12' := HA12.out
    have HB12' := HB12.out
    have HEN' := HEN.out
    clear HH epa hq
    go_wp2_with fail
    refine MZ.reg_mk (alQs A w.heap.size) 23 [0, 1, 2, 3, 4, 5, 6, 7, 8, 9, 10, 11, 12, 13, 14, 15, 16, 17, 18, 19, 20, 21, 22] [0, 1, 3, 4, 5, 6, 7, 8, 9, 10, 11, 12, 13, 14, 15, 16, 17, 18, 19, 20, 21, 22] [2] [] (fun i => if i = 3 then [2] else []) (val := valQs) (by kernel_rfl) (by kernel_rfl) (fun p hp => absurd hp (by simp)) ?_
    refine MZ.can_class (rest := [2, 3, 4, 5, 6, 7, 8, 9, 10, 11, 12, 13, 14, 15, 16, 17, 18, 19, 20, 21, 22]) [0, 1] [] 99 (alQs_lasts _ _) (MZ.any_class _) (by kernel_rfl) rfl (by kernel_rfl) (by kernel_rfl) ?_
    apply Exists.intro
    refine ⟨?r1, ?r2⟩
    case r1 =>
      intro Ty hT fw hf _
      change wpQuiet _ _ _ _ [_, _] _
      refine wpQuiet_loadg (by rfl) 29 (.tmp 7) rfl q4 rfl aa 29 _ (Class.has hf HA.out) Tryz.underlying29 rfl (by rw [HSA.out]; kernel_rfl) ?_
      simp only [Act.put, List.setIfInBounds_toArray, List.set_cons_succ, List.set_cons_zero]
      refine wpQuiet_loadg (by rfl) 37 (.tmp 3) rfl g1 rfl da 37 _ (Class.has hf HDv.out) Tryz.underlying37 rfl (by rw [HSD.out]; kernel_rfl) ?_
      simp only [Act.put, List.setIfInBounds_toArray, List.set_cons_succ, List.set_cons_zero]
      exact wpQuiet_nil rfl
    refine MZ.can_mk 2 50 _ rfl rfl rfl rfl ?m2 fun q2 e2 => ?n2
    case m2 =>
      intro G' u _ hu
      rw [show (execOp _ _).run Tryz.prog u = .ok (.enter 9 #[.agg da]) u by kernel_rfl]
      show Calls _ _ _ _ _
      refine (HAo.out u (KK.out.then_ (hu.1.low KK.out.1.size))).mono ?_
      rintro e v ⟨x, rfl, h1, h2⟩
      exact ⟨u.heap.size, ⟨v.heap.size, x, []⟩, rfl, hu.next (alQs_lasts _ _) h2 (Nat.le_refl _) h2.1.size (Nat.le_refl _) h1⟩
    rw [show valQs 2 q2 e2 = e2.v from rfl]
    simp only [Act.put, List.setIfInBounds_toArray, List.set_cons_succ, List.set_cons_zero]
    refine MZ.can_one 3 51 _ (.bool true) [2] (alQs_lasts _ _) (by kernel_rfl) rfl rfl (of_decide_eq_true rfl) (by kernel_rfl) ?r3 ?r4
    case r3 =>
      intro Ty hT fw hf hm
      try simp only [List.getElem_toArray, List.getElem_cons_succ, List.getElem_cons_zero]
      have hm2 := fun x => (hm 2 (by simp) (q2, e2) (by unfold MZ.upd; simp) x).2.2.2
      obtain ⟨x0⟩ := hT
      obtain ⟨ao2, c2, ev2, _⟩ := hm2 x0
      simp only [] at ev2 hm2
      have hS2 : ∀ x, Sl (fw x) ao2 A.n A.f := fun x => by
        have h := hm2 x
        unfold alQs at h
        rw [ev2] at h
        exact h.sl
      have HS2 := hid hS2
      obtain ⟨xa, exa⟩ : ∃ z, (encO (A.on ao2 c2)).toArray = z := ⟨_, rfl⟩
      rw [exa] at ev2
      rw [ev2]
      have HEX := hid exa
      have HEV := hid ev2
      have HfM : Hid (∀ x, Made wc.heap.size wc (fw x)) := hf.1
      clear hm hm2 ev2 exa hS2
      have S1 : Hid (∀ x, Calls Tryz.prog 12 #[.agg aa, .agg xa] (fw x) fun e v => e = .returned (.bool true) ∧ Made (fw x).heap.size (fw x) v) := fun x => by
        rw [← HEA.out, ← HEX.out]
        exact osame_c true (A.on ao1 c1) (A.on ao2 c2) (w := fw x) (by show A.n ≤ 1073741824; omega) ((by have h := SA.out; rw [← HEN'] at h; exact Sl.kept h (HfM.out x))) (HS2.out x) ⟨fun _ => ⟨rfl, rfl, rfl, rfl, ⟨rfl, rfl⟩, ⟨rfl, rfl⟩, rfl, rfl, rfl, rfl, rfl, rfl, rfl, fun _ _ => rfl⟩, fun _ => rfl⟩
      repeat (go_big_quiet_step ((first | (go_at_call 12; with_reducible exact hf.made (S1.out _)) | rfl)))
      rw [← HEV.out]
      exact wpQuiet_nil rfl
    simp only [Act.put, List.setIfInBounds_toArray, List.set_cons_succ, List.set_cons_zero]
    refine MZ.can_class (rest := []) [4, 5, 6, 7, 8, 9, 10, 11, 12, 13, 14, 15, 16, 17, 18, 19, 20, 21, 22] [] 99 (alQs_lasts _ _) (MZ.any_class _) (by kernel_rfl) rfl (by kernel_rfl) (by kernel_rfl) ?_
    apply Exists.intro
    refine ⟨?r5, ?r6⟩
    case r5 =>
      intro Ty hT fw hf _
      have HfM : Hid (∀ x, Made wc.heap.size wc (fw x)) := hf.1
      have S2 : Hid (∀ x, Calls Tryz.prog 12 #[.agg aa, .agg ca] (fw x) fun e v => e = .returned (.bool false) ∧ Made (fw x).heap.size (fw x) v) := fun x => by
        rw [← HEA.out, ← HEC.out]
        exact osame_c false (A.on ao1 c1) ({ A.on ao1 c1 with ln := l1 } : Or) (w := fw x) (by show A.n ≤ 1073741824; omega) ((by have h := SA.out; rw [← HEN'] at h; exact Sl.kept h (HfM.out x))) ((by have h := SA.out; rw [← HEN'] at h; exact Sl.kept h (HfM.out x))) ⟨fun h => absurd h (by decide), fun h => absurd h.2.2.2.2.2.2.2.2.2.1 (fun e => HNL.out (HEL.out.symm.trans e))⟩
      have S3 : Hid (∀ x, Calls Tryz.prog 12 #[.agg aa, .agg pa] (fw x) fun e v => e = .returned (.bool false) ∧ Made (fw x).heap.size (fw x) v) := fun x => by
        rw [← HEA.out, ← HEP.out]
        exact osame_c false (A.on ao1 c1) (⟨A.kd, A.id, A.a, A.b, A.x, A.y, A.vx, A.vy, A.an, A.sp, A.de, A.ln, A.k, A.r, some ⟨gp, 0, none⟩, an + 1, cc, (fun i => if i < an then A.f i else (0, 0))⟩ : Or) (w := fw x) (by show A.n ≤ 1073741824; omega) ((by have h := SA.out; rw [← HEN'] at h; exact Sl.kept h (HfM.out x))) (Sl.kept SP.out (HfM.out x)) ⟨fun h => absurd h (by decide), fun h => absurd h.2.2.2.2.2.2.2.2.2.2.2.2.1 (fun e => by have e : A.n = an + 1 := e; omega)⟩
      have S4 : Hid (∀ x, Calls Tryz.prog 12 #[.agg aa, .agg ba] (fw x) fun e v => e = .returned (.bool q) ∧ Made (fw x).heap.size (fw x) v) := fun x => by
        rw [← HEA.out, ← HEB.out]
        exact osame_c q (A.on ao1 c1) (Bo.on ao3 c3) (w := fw x) (by show A.n ≤ 1073741824; omega) ((by have h := SA.out; rw [← HEN'] at h; exact Sl.kept h (HfM.out x))) (Sl.kept SB.out (HfM.out x)) HQ.out
      have S5 : Hid (∀ x, Calls Tryz.prog 12 #[.agg ba, .agg aa] (fw x) fun e v => e = .returned (.bool q) ∧ Made (fw x).heap.size (fw x) v) := fun x => by
        rw [← HEB.out, ← HEA.out]
        exact osame_c q (Bo.on ao3 c3) (A.on ao1 c1) (w := fw x) (by show Bo.n ≤ 1073741824; omega) (Sl.kept SB.out (HfM.out x)) ((by have h := SA.out; rw [← HEN'] at h; exact Sl.kept h (HfM.out x))) ⟨fun h => (HQ.out.1 h).symm, fun h => HQ.out.2 h.symm⟩
      have hqq : (q != q) = false := by cases q <;> rfl
      change wpQuiet _ _ _ _ [_, _, _, _, _, _, _, _, _, _, _, _, _, _, _, _, _, _, _] _
      repeat (go_big_quiet_step ((first
        | (go_at_call 12; with_reducible exact hf.made (S2.out _))
        | (go_at_call 12; with_reducible exact hf.made (S3.out _))
        | (go_at_call 12; with_reducible exact hf.made (S4.out _))
        | (go_at_call 12; with_reducible exact hf.made (S5.out _))
        | rfl)))
      refine wpQuiet_loadg (by rfl) 29 (.tmp 7) rfl q4 rfl aa 29 _ (Class.has hf HA.out) Tryz.underlying29 rfl (by rw [HSA.out]; kernel_rfl) ?_
      simp only [Act.put, List.setIfInBounds_toArray, List.set_cons_succ, List.set_cons_zero]
      refine wpQuiet_loadg (by rfl) 29 (.tmp 9) rfl g6 rfl ca 29 _ (Class.has hf HC.out) Tryz.underlying29 rfl (by rw [HSC.out]; kernel_rfl) ?_
      simp only [Act.put, List.setIfInBounds_toArray, List.set_cons_succ, List.set_cons_zero]
      repeat (go_big_quiet_step ((first
        | (go_at_call 12; with_reducible exact hf.made (S2.out _))
        | (go_at_call 12; with_reducible exact hf.made (S3.out _))
        | (go_at_call 12; with_reducible exact hf.made (S4.out _))
        | (go_at_call 12; with_reducible exact hf.made (S5.out _))
        | rfl)))
      refine wpQuiet_loadg (by rfl) 29 (.tmp 7) rfl q4 rfl aa 29 _ (Class.has hf HA.out) Tryz.underlying29 rfl (by rw [HSA.out]; kernel_rfl) ?_
      simp only [Act.put, List.setIfInBounds_toArray, List.set_cons_succ, List.set_cons_zero]
      refine wpQuiet_loadg (by rfl) 29 (.tmp 10) rfl g8 rfl pa 29 _ (Class.has hf HP.out) Tryz.underlying29 rfl (by rw [HSP.out]; kernel_rfl) ?_
      simp only [Act.put, List.setIfInBounds_toArray, List.set_cons_succ, List.set_cons_zero]
      repeat (go_big_quiet_step ((first
        | (go_at_call 12; with_reducible exact hf.made (S2.out _))
        | (go_at_call 12; with_reducible exact hf.made (S3.out _))
        | (go_at_call 12; with_reducible exact hf.made (S4.out _))
        | (go_at_call 12; with_reducible exact hf.made (S5.out _))
        | rfl)))
      refine wpQuiet_loadg (by rfl) 29 (.tmp 7) rfl q4 rfl aa 29 _ (Class.has hf HA.out) Tryz.underlying29 rfl (by rw [HSA.out]; kernel_rfl) ?_
      simp only [Act.put, List.setIfInBounds_toArray, List.set_cons_succ, List.set_cons_zero]
      refine wpQuiet_loadg (by rfl) 29 (.tmp 8) rfl q5 rfl ba 29 _ (Class.has hf HBv.out) Tryz.underlying29 rfl (by rw [HSB.out]; kernel_rfl) ?_
      simp only [Act.put, List.setIfInBounds_toArray, List.set_cons_succ, List.set_cons_zero]
      repeat (go_big_quiet_step ((first
        | (go_at_call 12; with_reducible exact hf.made (S2.out _))
        | (go_at_call 12; with_reducible exact hf.made (S3.out _))
        | (go_at_call 12; with_reducible exact hf.made (S4.out _))
        | (go_at_call 12; with_reducible exact hf.made (S5.out _))
        | rfl)))
      refine wpQuiet_loadg (by rfl) 29 (.tmp 8) rfl q5 rfl ba 29 _ (Class.has hf HBv.out) Tryz.underlying29 rfl (by rw [HSB.out]; kernel_rfl) ?_
      simp only [Act.put, List.setIfInBounds_toArray, List.set_cons_succ, List.set_cons_zero]
      refine wpQuiet_loadg (by rfl) 29 (.tmp 7) rfl q4 rfl aa 29 _ (Class.has hf HA.out) Tryz.underlying29 rfl (by rw [HSA.out]; kernel_rfl) ?_
      simp only [Act.put, List.setIfInBounds_toArray, List.set_cons_succ, List.set_cons_zero]
      repeat (go_big_quiet_step ((first
        | (go_at_call 12; with_reducible exact hf.made (S2.out _))
        | (go_at_call 12; with_reducible exact hf.made (S3.out _))
        | (go_at_call 12; with_reducible exact hf.made (S4.out _))
        | (go_at_call 12; with_reducible exact hf.made (S5.out _))
        | rfl)))
      exact wpQuiet_nil rfl
    intro w9 hu
    have k9 := hu.1
    have K9 := hid (KK.out.then_ (k9.low KK.out.1.size))
    have hqq : (q != q) = false := by cases q <;> rfl
    clear hu k9 HA HBv HC HP HDv SA SB SP KK HQ HEP HSP HEC HSC HNL HEA HEB HAo HB
    simp only [List.drop_succ_cons, List.drop_zero]
    go_wp2_with fail
    refine NoPanic.normal ?_
    go_wp2_with fail
    refine (HMd.out _ K9.out).mono ?_
    rintro e w10 ⟨P, val, rfl, hval, hok, hsm, k10⟩
    have K10 := hid (K9.out.then_ (k10.low K9.out.1.size))
    have OK := hid hok
    have SM := hid hsm
    clear k10 hok hsm HMd K9
    obtain ⟨ob, oj, cb, cj, eval, hLm⟩ := hval
    have HLm := hid hLm
    obtain ⟨nB, eB⟩ : ∃ m, P.B.length = m := ⟨_, rfl⟩
    obtain ⟨nJ, eJ⟩ : ∃ m, P.J.length = m := ⟨_, rfl⟩
    obtain ⟨nb, eb⟩ : ∃ m, P.nb = m := ⟨_, rfl⟩
    obtain ⟨nj, ej⟩ : ∃ m, P.nj = m := ⟨_, rfl⟩
    have eC : P.C.length = 0 := by rw [SM.out.1]; rfl
    rw [eB, eJ, eC, eb, ej] at eval
    subst eval
    have HE := hid (And.intro eB (And.intro eJ (And.intro eb ej)))
    clear hLm eB eJ eb ej eC
    obtain ⟨W11, eW11⟩ : ∃ V, V = w10.alloc (.cells #[.int .i64 0, .int .i64 nb, .int .i64 nj, .int .i64 0, .int .i64 0, .slice ob nB cb, .slice oj nJ cj, .slice none 0 0] 49) := ⟨_, rfl⟩
    have kk11 : Made w10.heap.size w10 W11 := by rw [eW11]; exact (Made.rfl_ _ _).cells (Nat.le_refl _) _ _
    have K11 := hid (K10.out.then_ (kk11.low K10.out.1.size))
    have HW11 : Hid (Has W11 w10.heap.size 49 #[.int .i64 0, .int .i64 nb, .int .i64 nj, .int .i64 0, .int .i64 0, .slice ob nB cb, .slice oj nJ cj, .slice none 0 0]) := by unfold Hid; rw [eW11]; exact has_new _ _ _
    have HL11 : Hid (WLs Nil0 W11 ob cb P.B oj cj P.J none 0 []) := by
      have h := HLm.out.kept kk11
      rw [SM.out.1] at h
      exact h
    obtain ⟨gw, egw⟩ : ∃ g, w10.heap.size = g := ⟨_, rfl⟩
    rw [egw] at HW11
    go_upto_region 13 with fail
    rw [← eW11]
    clear eW11 kk11 HLm K10
    try rw [egw]
    clear egw
    have b0 := HW11.out.at_ 0
    have b1 := HW11.out.at_ 1
    have b2 := HW11.out.at_ 2
    have b3 := HW11.out.at_ 3
    have b4 := HW11.out.at_ 4
    have b5 := HW11.out.at_ 5
    have b6 := HW11.out.at_ 6
    have b7 := HW11.out.at_ 7
    simp at b0 b1 b2 b3 b4 b5 b6 b7
    have lw : gw < W11.heap.size := HW11.out.here
    have HCP := hid (copy_mk ob oj cb cj nB nJ nb nj OK.out HE.out HL11.out)
    go_wp2_with fail
    refine HCP.out.mono ?_
    rintro e w12 ⟨g, ex, rfl, h1, h2, h3, h4, k12⟩
    obtain ⟨ox, ojx, cbx, cjx, ev, hsm2, hls, _, _, _, _⟩ := h4
    obtain ⟨eB, eJ, eb, ej⟩ := HE.out
    rw [eB, eJ, eb, ej] at ev
    rw [ev]
    have HSm2 := hid hsm2
    have HLs := hid hls
    have HLw := hid (HL11.out.kept k12)
    have HWw := hid (HW11.out.stays k12 HW11.out.here)
    have K12 := hid (K11.out.then_ (k12.low K11.out.1.size))
    have Hhi := hid h3
    clear ev hsm2 hls h1 h2 h3 k12 b0 b1 b2 b3 b4 b5 b6 b7 lw HCP HW11 HL11 K11 eB eJ eb ej
    obtain ⟨W13, eW13⟩ : ∃ V, V = w12.alloc (.cells #[.int .i64 0, .int .i64 nb, .int .i64 nj, .int .i64 0, .int .i64 0, .slice ox nB cbx, .slice ojx nJ cjx, .slice none 0 0] 49) := ⟨_, rfl⟩
    have kk13 : Made w12.heap.size w12 W13 := by rw [eW13]; exact (Made.rfl_ _ _).cells (Nat.le_refl _) _ _
    have HX13 : Hid (Has W13 w12.heap.size 49 #[.int .i64 0, .int .i64 nb, .int .i64 nj, .int .i64 0, .int .i64 0, .slice ox nB cbx, .slice ojx nJ cjx, .slice none 0 0]) := by unfold Hid; rw [eW13]; exact has_new _ _ _
    have HW13 := hid (HWw.out.stays kk13 HWw.out.here)
    have KB : Hid (Below w.heap.size w W13) := (K12.out.then_ (kk13.low K12.out.1.size)).1
    have hgx : w.heap.size ≤ w12.heap.size := K12.out.1.size
    have hgwx : ¬ gw = w12.heap.size := by have := HWw.out.here; omega
    obtain ⟨gx, egx⟩ : ∃ g, w12.heap.size = g := ⟨_, rfl⟩
    have HLx : Hid (WLs (fun b => b = gx) W13 ox cbx ex.bs ojx cjx P.J none 0 []) := (HLs.out.free (Y := fun b => b = gx) (fun b hb => .inr (by have hb : b = gx := hb; omega))).kept kk13
    have HLw13 : Hid (WLs (fun b => b = gx) W13 ob cb P.B oj cj P.J none 0 []) := (HLw.out.free (Y := fun b => b = gx) (fun b hb => .inr (by have hb : b = gx := hb; omega))).kept kk13
    rw [egx] at HX13 hgx hgwx
    go_upto_region 14 with fail
    rw [← eW13]
    clear eW13 kk13 HLs HLw HWw K12 Hhi
    try rw [egx]
    clear egx
    have HG : Hid (GOk ⟨0, 0, 0, ⟨nb, nj, ex.bs, P.J, []⟩⟩) := by
      have h := copy_ok OK.out SM.out.1 HSm2.out
      rw [HE.out.2.2.1, HE.out.2.2.2] at h
      exact POk.g h (by simp) (by unfold Inn; simp) (by unfold Inn; simp)
    have HV : Hid (GV (fun b => b = gx) W13 gx ⟨0, 0, 0, ⟨nb, nj, ex.bs, P.J, []⟩⟩) := by
      refine ⟨ox, ojx, none, cbx, cjx, 0, ?_, HLx.out⟩
      show Has W13 gx 49 #[.int .i64 0, .int .i64 nb, .int .i64 nj, .int .i64 0, .int .i64 0, .slice ox ex.bs.length cbx, .slice ojx P.J.length cjx, .slice none 0 0]
      rw [HSm2.out.1, HE.out.1, HE.out.2.1]
      exact HX13.out
    have hnb : 1 ≤ nb ∧ nb ≤ 9 := by have h1 := SM.out.2.2.2.1; have h2 := (nb_I OK.out).2.1; have h3 := HE.out.2.2.1; omega
    have hnj : 1 ≤ nj ∧ nj ≤ 9 := by have h1 := SM.out.2.2.2.2; have h2 := (nb_I OK.out).2.2.2; have h3 := HE.out.2.2.2; omega
    have HNo : Hid (nb ∉ ids ex.bs) := fun h => by have := (HG.out.hB.num.2.2.2 nb h).2; have this : nb < nb := this; omega
    have HNj : Hid (∀ x ∈ P.J, x.id ≠ nj) := fun x hx e => by have := (HG.out.hJ.num.2.2.2 x.id (List.mem_map.2 ⟨x, hx, rfl⟩)).2; have this : x.id < nj := this; omega
    obtain ⟨nb1, enb1⟩ : ∃ z, nb + 1 = z := ⟨_, rfl⟩
    have ew1 : wrap64 nb1 = nb1 := by unfold wrap64; omega
    clear HX13 HLx
    have b0 := HW13.out.at_ 0
    have b1 := HW13.out.at_ 1
    have b2 := HW13.out.at_ 2
    have b3 := HW13.out.at_ 3
    have b4 := HW13.out.at_ 4
    have b5 := HW13.out.at_ 5
    have b6 := HW13.out.at_ 6
    have b7 := HW13.out.at_ 7
    simp at b0 b1 b2 b3 b4 b5 b6 b7
    have lw : gw < W13.heap.size := HW13.out.here
    have HDo := hid (odo_p (⟨2, nb, 0, 0, 0, 0, 0, 0, 0, 0, 0, 0, 0, 0, none, 0, 0, fun _ => (0, 0)⟩ : Or) HV.out HG.out rfl (fun b hb => by have hb : b = gx := hb; rw [hb]; exact WVar.here HV.out) (or_small _ rfl (by simp; omega)) (.inr (.inl ⟨.inl rfl, ⟨rfl, rfl, rfl, rfl, rfl⟩, (by show 0 < nb; omega), rfl, rfl, ⟨rfl, rfl⟩, ⟨rfl, rfl⟩, rfl, rfl⟩)) (fun hn => absurd hn (Nat.lt_irrefl 0)) (.inl ⟨rfl, rfl, rfl⟩) (by simp))
    go_wp2_with fail
    refine HDo.out.mono ?_
    rintro e wd0 ⟨rfl, er, G', hex, hv, kb⟩
    have eG := ex2 rfl HNo.out hex
    subst eG
    have HV := hid hv
    have KB := hid (BuB.below_ KB.out kb KB.out.size (fun b hb => by have hb : b = gx := hb; omega))
    have HW13 := hid (HW13.out.bub kb hgwx)
    have HLw13 := hid (HLw13.out.bub kb (fun b hb => hb))
    clear hex hv kb HDo b0 b1 b2 b3 b4 b5 b6 b7 lw
    have b0 := HW13.out.at_ 0
    have b1 := HW13.out.at_ 1
    have b2 := HW13.out.at_ 2
    have b3 := HW13.out.at_ 3
    have b4 := HW13.out.at_ 4
    have b5 := HW13.out.at_ 5
    have b6 := HW13.out.at_ 6
    have b7 := HW13.out.at_ 7
    simp at b0 b1 b2 b3 b4 b5 b6 b7
    have lw : gw < wd0.heap.size := HW13.out.here
    have HDo := hid (odo_p (⟨4, nj, 0, 0, 0, 0, 0, 0, 0, 0, 0, 0, 0, 0, none, 0, 0, fun _ => (0, 0)⟩ : Or) HV.out HG.out rfl (fun b hb => by have hb : b = gx := hb; rw [hb]; exact WVar.here HV.out) (or_small _ rfl (by simp; omega)) (.inr (.inl ⟨.inr rfl, ⟨rfl, rfl, rfl, rfl, rfl⟩, (by show 0 < nj; omega), rfl, rfl, ⟨rfl, rfl⟩, ⟨rfl, rfl⟩, rfl, rfl⟩)) (fun hn => absurd hn (Nat.lt_irrefl 0)) (.inl ⟨rfl, rfl, rfl⟩) (by simp))
    go_wp2_with fail
    refine HDo.out.mono ?_
    rintro e wd1 ⟨rfl, er, G', hex, hv, kb⟩
    have eG := ex4 rfl HNj.out hex
    subst eG
    have HV := hid hv
    have KB := hid (BuB.below_ KB.out kb KB.out.size (fun b hb => by have hb : b = gx := hb; omega))
    have HW13 := hid (HW13.out.bub kb hgwx)
    have HLw13 := hid (HLw13.out.bub kb (fun b hb => hb))
    clear hex hv kb HDo b0 b1 b2 b3 b4 b5 b6 b7 lw
    have b0 := HW13.out.at_ 0
    have b1 := HW13.out.at_ 1
    have b2 := HW13.out.at_ 2
    have b3 := HW13.out.at_ 3
    have b4 := HW13.out.at_ 4
    have b5 := HW13.out.at_ 5
    have b6 := HW13.out.at_ 6
    have b7 := HW13.out.at_ 7
    simp at b0 b1 b2 b3 b4 b5 b6 b7
    have lw : gw < wd1.heap.size := HW13.out.here
    have HDo := hid (odo_p (⟨5, nb, 0, 0, 0, 0, 5, 0, 0, 0, 0, 0, 0, 0, none, 0, 0, fun _ => (0, 0)⟩ : Or) HV.out HG.out rfl (fun b hb => by have hb : b = gx := hb; rw [hb]; exact WVar.here HV.out) (or_small _ rfl (by simp; omega)) (.inr (.inr (.inr (.inl ⟨rfl, ⟨rfl, rfl, rfl, rfl, rfl⟩, (by show 0 < nb; omega), rfl, rfl, ⟨rfl, rfl⟩, rfl, (by unfold Inn; simp), (by unfold Inn; simp), (by unfold Inn; simp)⟩)))) (fun hn => absurd hn (Nat.lt_irrefl 0)) (.inl ⟨rfl, rfl, rfl⟩) (by simp))
    go_wp2_with fail
    refine HDo.out.mono ?_
    rintro e wd2 ⟨rfl, er, G', hex, hv, kb⟩
    have eG := ex5 rfl HNo.out hex
    subst eG
    have HV := hid hv
    have KB := hid (BuB.below_ KB.out kb KB.out.size (fun b hb => by have hb : b = gx := hb; omega))
    have HW13 := hid (HW13.out.bub kb hgwx)
    have HLw13 := hid (HLw13.out.bub kb (fun b hb => hb))
    clear hex hv kb HDo b0 b1 b2 b3 b4 b5 b6 b7 lw
    have b0 := HW13.out.at_ 0
    have b1 := HW13.out.at_ 1
    have b2 := HW13.out.at_ 2
    have b3 := HW13.out.at_ 3
    have b4 := HW13.out.at_ 4
    have b5 := HW13.out.at_ 5
    have b6 := HW13.out.at_ 6
    have b7 := HW13.out.at_ 7
    simp at b0 b1 b2 b3 b4 b5 b6 b7
    have lw : gw < wd2.heap.size := HW13.out.here
    have HDo := hid (odo_p (⟨3, 0, nb, nb1, 0, 0, 0, 0, 0, 0, 0, 0, 0, 0, none, 0, 0, fun _ => (0, 0)⟩ : Or) HV.out HG.out rfl (fun b hb => by have hb : b = gx := hb; rw [hb]; exact WVar.here HV.out) (or_small _ rfl (by simp; omega)) (.inr (.inr (.inl ⟨rfl, ⟨rfl, rfl, rfl, rfl, rfl⟩, rfl, rfl, ⟨by unfold Inn jointOr; simp, by unfold Inn jointOr; simp, by unfold Inn jointOr; simp, by unfold Inn jointOr; simp, by unfold jointOr; simp, (by show 1 ≤ nb; omega), (by show 1 ≤ nb1; omega), (by show nb ≠ nb1; omega)⟩⟩))) (fun hn => absurd hn (Nat.lt_irrefl 0)) (.inl ⟨rfl, rfl, rfl⟩) (by simp))
    go_wp2_with fail
    refine HDo.out.mono ?_
    rintro e wd3 ⟨rfl, er, G', hex, hv, kb⟩
    have eG := ex3 rfl HNo.out hex
    subst eG
    have HV := hid hv
    have KB := hid (BuB.below_ KB.out kb KB.out.size (fun b hb => by have hb : b = gx := hb; omega))
    have HW13 := hid (HW13.out.bub kb hgwx)
    have HLw13 := hid (HLw13.out.bub kb (fun b hb => hb))
    clear hex hv kb HDo b0 b1 b2 b3 b4 b5 b6 b7 lw
    obtain ⟨o1, o2, o3, c1', c2', c3', hx, hl⟩ := HV.out
    have hx : Has wd3 gx 49 #[.int .i64 0, .int .i64 nb, .int .i64 nj, .int .i64 0, .int .i64 0, .slice o1 ex.bs.length c1', .slice o2 P.J.length c2', .slice o3 0 c3'] := hx
    have hl : WLs (fun b => b = gx) wd3 o1 c1' ex.bs o2 c2' P.J o3 c3' [] := hl
    rw [HSm2.out.1, HE.out.1, HE.out.2.1] at hx
    have HXx := hid hx
    have HSame := hid (wsame_c true 0 nb nj 0 0 0 nb nj 0 0 o1 o2 o3 ob oj none nB c1' nJ c2' 0 c3' nB cb nJ cj 0 0 (w := wd3) hl.at_ HLw13.out.at_ ⟨by rw [HSm2.out.1]; exact HE.out.1, HE.out.2.1, rfl⟩ ⟨HE.out.1, HE.out.2.1, rfl⟩ ⟨by have := SM.out.2.1; have := HE.out.1; omega, by have := SM.out.2.2.1; have := HE.out.2.1; omega, by omega⟩ (fun b hb => by have := right_n (HG.out.hB.all b hb).shape; omega) ⟨fun _ => ⟨rfl, rfl, rfl, ⟨rfl, rfl⟩, (SameBs.eq HSm2.out).symm, rfl, rfl⟩, fun _ => rfl⟩)
    clear hx hl
    have b0 := HW13.out.at_ 0
    have b1 := HW13.out.at_ 1
    have b2 := HW13.out.at_ 2
    have b3 := HW13.out.at_ 3
    have b4 := HW13.out.at_ 4
    have b5 := HW13.out.at_ 5
    have b6 := HW13.out.at_ 6
    have b7 := HW13.out.at_ 7
    simp at b0 b1 b2 b3 b4 b5 b6 b7
    have lw : gw < wd3.heap.size := HW13.out.here
    have y0 := HXx.out.at_ 0
    have y1 := HXx.out.at_ 1
    have y2 := HXx.out.at_ 2
    have y3 := HXx.out.at_ 3
    have y4 := HXx.out.at_ 4
    have y5 := HXx.out.at_ 5
    have y6 := HXx.out.at_ 6
    have y7 := HXx.out.at_ 7
    simp at y0 y1 y2 y3 y4 y5 y6 y7
    have lx : gx < wd3.heap.size := HXx.out.here
    go_wp2_with fail
    refine HSame.out.mono ?_
    rintro e wz ⟨rfl, kz⟩
    have KZ := hid (KB.out.trans (kz.1.mono KB.out.size))
    clear kz b0 b1 b2 b3 b4 b5 b6 b7 y0 y1 y2 y3 y4 y5 y6 y7 lw lx
    go_wp2_with fail
    go_ret
    exact ⟨rfl, KZ.out⟩
end Go.Proofs.YtfncelifflebbaaGreat.Fx

