/- CoC CoD WoA WoF -/
import Derived.Test.YtgdcphmmehedoaaGreatCa3
import Derived.Test.YtgdcphmmehedoaaGreatCa4
import Derived.Test.YtgdcphmmehedoaaGreatCa6
import Derived.Deep.LoopGhost
import Derived.LoopN
import Derived.WalkMore
set_option maxRecDepth 100000
set_option maxHeartbeats 64000000
/- Regions in which a writer is written to: the class of worlds behind some of its calls, and slices made for them. -/
namespace Go.Proofs.YtgdcphmmehedoaaGreat.Fx
open Go.ChangeShapes Go.WideShapes Go.ChangeAt Go.RowKit
set_option linter.unusedVariables false
structure Arg where
 m : Nat
 t : TypeId
 n : Nat
 cs : Array Value
def ArgsAt (ag : List Arg) (pb : Nat) (v : Value) (s : RF.Cnt) (G : RF.Lts) (u : World) : Prop :=
 ∀ (i : Nat) a, ag[i]? = some a → 0 < s (i + 1) → ∃ g, G a.m = .slice (some ⟨g, 0, none⟩) a.n a.n ∧ Has u g a.t a.cs ∧ ¬ OwnW pb v g
def kN (l : List (List Nat)) (k : Nat) : List Nat := l.getD k []
def CW (w : World) (pb : Nat) (v0 : Value) (K : List (List Nat)) (ag : List Arg) : RF.Cnt → RF.Lts → World → Prop := fun s G u =>
 ∃ v, Wv u pb v (kN K (s 0)) ∧ Wc pb w u v0 v ∧ ArgsAt ag pb v s G u
theorem CW.start {w : World} {pb : Nat} {v0 : Value} {K : List (List Nat)} {ag : List Arg} {G : RF.Lts} (h : Wv w pb v0 (kN K 0)) : CW w pb v0 K ag (fun _ => 0) G { w with drawn := w.drawn + 1 } :=
 ⟨v0, h.kept (made_draw w), (Wc.rfl_ _ _ _).made (made_draw w), fun i a _ hs => absurd hs (Nat.lt_irrefl 0)⟩
theorem CW.reads {w : World} {pb : Nat} {v0 : Value} {K : List (List Nat)} {ag : List Arg} {G : RF.Lts} {s : RF.Cnt} {T : Type} {f : T → World} (hf : ∀ u, CW w pb v0 K ag s G u ↔ ∃ x, u = f x) {p : Addr} {y : Value} (c : w.cell? p = some y) (hp : ¬ OwnW pb v0 p.block) : ∀ x, (f x).cell? p = some y := fun x => by
 obtain ⟨v, _, hc, _⟩ := (hf (f x)).2 ⟨x, rfl⟩
 exact hc.but.cell c hp
theorem CW.call {P : Program} {w : World} {pb : Nat} {v0 : Value} {K : List (List Nat)} {ag : List Arg} {G : RF.Lts} {s : RF.Cnt} {u : World} {A : Act} {ls : List (Nat × Tmp)} {k j : Nat} {o : Oper} {fn : Nat} {args : Array Value} {x : Value}
  (hC : CW w pb v0 K ag s G u) (hk : s 0 = k) (hl : RF.lettered ls j = false) (hd : ∀ d, o.dst = some d → A.tmps[d]? = some x)
  (h : ∀ v, Wv u pb v (kN K k) → Wc pb w u v0 v → ArgsAt ag pb v s G u → Calls P fn args u fun e u' => e = .returned x ∧ ∃ v', Wv u' pb v' (kN K (k + 1)) ∧ Wc pb u u' v v') :
  Calls P fn args u fun z u' => ∃ x, z = .returned x ∧ RF.Done A (CW w pb v0 K ag) ls s G 0 k j o x u' := by
 obtain ⟨v, h1, h2, h3⟩ := hC
 rw [hk] at h1
 refine (h v h1 h2 h3).mono ?_
 rintro z u' ⟨rfl, v', h4, h5⟩
 refine ⟨x, rfl, ?_, .inr hd⟩
 rw [hl]
 show CW w pb v0 K ag (RF.upd s 0 (k + 1)) G u'
 refine ⟨v', ?_, h2.then_ h5, fun i a ha hs => ?_⟩
 ·rw [RF.upd_same]; exact h4
 ·rw [RF.upd_else _ _ (by omega)] at hs
  obtain ⟨g, e1, e2, e3⟩ := h3 i a ha hs
  exact ⟨g, e1, e2.but h5.but e3, h5.offs e2.here e3⟩
theorem CW.make {w : World} {pb : Nat} {v0 : Value} {K : List (List Nat)} {ag : List Arg} {G : RF.Lts} {s : RF.Cnt} {u : World} {A : Act} {ls : List (Nat × Tmp)} {i : Nat} {o : Oper}
  (hC : CW w pb v0 K ag s G u) (a : Arg) (ha : ag[i]? = some a) (hl : RF.lettered ls a.m = true) (hone : ∀ i' a', ag[i']? = some a' → i' ≠ i → a'.m ≠ a.m) :
  RF.Done A (CW w pb v0 K ag) ls s G (i + 1) 0 a.m o (.slice (some ⟨u.heap.size, 0, none⟩) a.n a.n) (u.alloc (.cells a.cs a.t)) := by
 obtain ⟨v, h1, h2, h3⟩ := hC
 refine ⟨?_, .inl hl⟩
 rw [hl]
 show CW w pb v0 K ag (RF.upd s (i + 1) (0 + 1)) (RF.upd G a.m _) _
 have km : Made u.heap.size u (u.alloc (.cells a.cs a.t)) := (Made.rfl_ _ _).cells (Nat.le_refl _) _ _
 refine ⟨v, ?_, h2.made km, fun i' a' ha' hs => ?_⟩
 ·rw [RF.upd_else _ _ (by omega)]; exact h1.kept km
 ·by_cases e : i' = i
  ·subst e
   rw [ha] at ha'
   cases ha'
   exact ⟨u.heap.size, RF.upd_same _ _ _, has_new _ _ _, h1.off (.inr (Nat.le_refl _))⟩
  ·rw [RF.upd_else _ _ (by omega)] at hs
   obtain ⟨g, e1, e2, e3⟩ := h3 i' a' ha' hs
   exact ⟨g, by rw [RF.upd_else _ _ (hone i' a' ha' e)]; exact e1, e2.more _, e3⟩
theorem ns1 {w : World} {g : Nat} {t : TypeId} {x : Int} (h : Has w g t #[.int .i64 x]) : Ns w (some ⟨g, 0, none⟩) 1 (fun _ => x) := fun _ => by
 refine ⟨g, 0, rfl, fun i hi => ?_⟩
 rw [Nat.zero_add, h.at_ i]
 have : i = 0 := by omega
 subst this
 rfl
def f3 (x y z : Int) : Nat → Int := fun i => if i = 0 then x else if i = 1 then y else z
theorem ns3 {w : World} {g : Nat} {t : TypeId} {x y z : Int} (h : Has w g t #[.int .i64 x, .int .i64 y, .int .i64 z]) : Ns w (some ⟨g, 0, none⟩) 3 (f3 x y z) := fun _ => by
 refine ⟨g, 0, rfl, fun i hi => ?_⟩
 rw [Nat.zero_add, h.at_ i]
 have : i = 0 ∨ i = 1 ∨ i = 2 := by omega
 rcases this with rfl | rfl | rfl <;> rfl
def c1 (x y : Int) : Cs := fun _ => (x, y)
def c2 (x y x' y' : Int) : Cs := fun i => if i = 0 then (x, y) else (x', y')
theorem sl1 {w : World} {g : Nat} {t : TypeId} {x y : Int} (h : Has w g t #[.int .i64 x, .int .i64 y]) : Sl w (some ⟨g, 0, none⟩) 1 (c1 x y) := fun _ => by
 refine ⟨g, 0, rfl, fun i hi => ?_⟩
 have : i = 0 := by omega
 subst this
 rw [h.at_, h.at_]
 exact ⟨rfl, rfl⟩
theorem sl2 {w : World} {g : Nat} {t : TypeId} {x y x' y' : Int} (h : Has w g t #[.int .i64 x, .int .i64 y, .int .i64 x', .int .i64 y']) : Sl w (some ⟨g, 0, none⟩) 2 (c2 x y x' y') := fun _ => by
 refine ⟨g, 0, rfl, fun i hi => ?_⟩
 have : i = 0 ∨ i = 1 := by omega
 rcases this with rfl | rfl <;> (rw [h.at_, h.at_]; exact ⟨rfl, rfl⟩)
theorem offs_of {pb g : Nat} {v : Value} (h : ¬ OwnW pb v g) : 0 < (1 : Nat) → Offs (OwnW pb v) (some ⟨g, 0, none⟩) := fun _ b off s e => by cases e; exact h
theorem fB1 (x : Int) : fB (fun _ => x) 1 = nb 8 x := by rw [fB_next]; rfl
theorem fB3 (x y z : Int) : fB (f3 x y z) 3 = nb 8 x ++ nb 8 y ++ nb 8 z := by rw [fB_next, fB_next, fB_next]; rfl
theorem vB1 (x y : Int) : vB (c1 x y) 1 = nb 8 x ++ nb 8 y := by rw [vB_next]; rfl
theorem vB2 (x y x' y' : Int) : vB (c2 x y x' y') 2 = nb 8 x ++ nb 8 y ++ (nb 8 x' ++ nb 8 y') := by rw [vB_next, vB_next]; rfl
theorem i64_f3 {x y z : Int} (hx : I64 x) (hy : I64 y) (hz : I64 z) : ∀ i, i < 3 → I64 (f3 x y z i) := fun i _ => by
 unfold f3; split
 ·exact hx
 ·split
  ·exact hy
  ·exact hz
theorem cin_c1 {x y : Int} (hx : I64 x) (hy : I64 y) : Cin (c1 x y) 1 := fun i _ => ⟨hx, hy⟩
theorem cin_c2 {x y x' y' : Int} (hx : I64 x) (hy : I64 y) (hx' : I64 x') (hy' : I64 y') : Cin (c2 x y x' y') 2 := fun i _ => by
 unfold c2; split
 ·exact ⟨hx, hy⟩
 ·exact ⟨hx', hy'⟩
end Go.Proofs.YtgdcphmmehedoaaGreat.Fx
/- Package codec: a shape is written. -/
namespace Go.Proofs.YtgdcphmmehedoaaGreat.Fx
open Go.ChangeShapes Go.WideShapes Go.ChangeAt Go.RowKit
set_option linter.unusedVariables false
def shB (k r : Int) (n : Nat) (f : Cs) : List Nat := nb 1 k ++ (if k = 1 then nb 8 r else if k = 2 then nb 1 (n : Nat) ++ vB f n else [])
theorem wshape1_c {pb n c : Nat} {v : Value} {l : List Nat} {k r : Int} {ao : Option Addr} {f : Cs} {w : World} (hW : Wv w pb v l) (hr : I64 r) (hs : Sl w ao n f) (hX : 0 < n → Offs (OwnW pb v) ao) (hf : Cin f n) (hn : l.length + 16 * n + 32 ≤ 549755813888) :
  Calls Tryz.prog 70 #[.pointer (some ⟨pb, 0, none⟩), .agg #[.int .i64 1, .int .i64 r, .slice ao n c]] w fun e w' => e = .returned (.tuple #[]) ∧ ∃ v', Wv w' pb v' (l ++ shB 1 r n f) ∧ Wc pb w w' v v' := by
 have hk : I64 1 := by unfold I64; omega
 have HW := hid hW
 have HS := hid hs
 have HX := hid hX
 have HF := hid hf
 have hk1 := hk.1; have hk2 := hk.2
 have hr1 := hr.1; have hr2 := hr.2
 obtain ⟨W, eW⟩ : ∃ W, W = w.alloc (.cells #[.int .i64 1, .int .i64 r, .slice ao n c] 33) := ⟨_, rfl⟩
 have KW : Hid (Made w.heap.size w W) := by unfold Hid; rw [eW]; exact (Made.rfl_ _ _).cells (Nat.le_refl _) _ _
 obtain ⟨g1, eg1⟩ : ∃ g, w.heap.size = g := ⟨_, rfl⟩
 have HB : Hid (Has W g1 33 #[.int .i64 1, .int .i64 r, .slice ao n c]) := by unfold Hid; rw [eW, ← eg1]; exact has_new _ _ _
 have HG : Hid (¬ OwnW pb v g1) := HW.out.off (.inr (Nat.le_of_eq eg1))
 have HW1 := hid (HW.out.kept KW.out)
 have d0 : W.cell? ⟨g1, 0, none⟩ = some (.int .i64 1) := HB.out.at_ 0
 have d1 : W.cell? ⟨g1, 1, none⟩ = some (.int .i64 r) := HB.out.at_ 1
 have d2 : W.cell? ⟨g1, 2, none⟩ = some (.slice ao n c) := HB.out.at_ 2
 clear hW hs hX hf hk hr
 go_enter Tryz.func70, Tryz.ntmps70
 go_upto_region 1 with fail
 rw [← eW]
 clear eW
 try rw [eg1]
 clear eg1
 refine RF.reg_flow (CW W pb v [l, l ++ nb 1 1] []) [[5]] [] [0, 1, 2, 3, 4] [(9, .pointer (some ⟨pb, 0, none⟩))] 33 (by kernel_rfl) (CW.start HW1.out) (by kernel_rfl) rfl (by kernel_rfl) (by kernel_rfl) ?_
 apply Exists.intro
 refine ⟨?q1a, ?q1b, ?q1c⟩
 case q1a =>
  intro s G Ty hT f hf
  have d0 := CW.reads hf d0 HG.out
  clear hf
  simp only [RF.putF, Act.put, List.setIfInBounds_toArray, List.set_cons_succ, List.set_cons_zero]
  change wpQuiet _ _ _ _ [_, _, _, _, _] _
  repeat (go_big_quiet_step (fail))
  exact wpQuiet_nil rfl
 case q1b =>
  refine ⟨⟨?_, trivial⟩, trivial⟩
  ·intro s G u hC hk hw
   rw [show (execOp _ _).run Tryz.prog u = .ok (.enter 19 #[.pointer (some ⟨pb, 0, none⟩), .int .i64 1, .int .i64 1]) u by kernel_rfl]
   refine CW.call hC hk rfl (fun d e => by cases e; rfl) fun v hv hc ha => ?_
   refine (wnum_c (m := 1) hv (by omega) (by show List.length (l)  ≤ _; omega) (by omega) (by omega)).mono ?_
   rintro e u' ⟨rfl, v', h1, h2⟩
   exact ⟨rfl, v', h1, h2⟩
 case q1c =>
  intro G u hu
  obtain ⟨v1, hv1, hc1, _⟩ := hu
  have HV1 : Hid (Wv u pb v1 (l ++ nb 1 1)) := hv1
  have HC1 := hid hc1
  have e0 := hc1.but.cell d0 HG.out
  have e1 := hc1.but.cell d1 HG.out
  have e2 := hc1.but.cell d2 HG.out
  have HG2 := hid (hc1.offs HB.out.here HG.out)
  have HS2 : Hid (Sl u ao n f) := (Sl.kept HS.out KW.out : Sl W ao n f) |> fun h hn => by
   obtain ⟨b, off, e, hp⟩ := h hn
   exact ⟨b, off, e, hp.but HC1.out.but (HX.out hn b off none e)⟩
  have HX2 : Hid (0 < n → Offs (OwnW pb v1) ao) := fun hn b off s e => by
   obtain ⟨b', off', e', hp⟩ := (Sl.kept HS.out KW.out : Sl W ao n f) hn
   rw [e] at e'; cases e'
   exact HC1.out.offs (World.block_lt_of_cell? _ _ (hp 0 hn).1) (HX.out hn b off none e)
  clear hv1 hc1 d0 d1 d2
  simp only [RF.AG]
  go_upto_region 4 with fail
  refine RF.reg_flow (CW u pb v1 [l ++ nb 1 1, l ++ nb 1 1 ++ fB (fun _ => r) 1] [⟨5, 26, 1, #[.int .i64 r]⟩]) [[6], [5]] [(5, 19)] [0, 1, 2, 3, 4] [(20, .pointer (some ⟨pb, 0, none⟩))] 33 (by kernel_rfl) (CW.start HV1.out) (by kernel_rfl) rfl (by kernel_rfl) (by kernel_rfl) ?_
  apply Exists.intro
  refine ⟨?q2a, ?q2b, ?q2c⟩
  case q2a =>
   intro s G Ty hT f hf
   have z1 := CW.reads hf e1 HG2.out
   clear hf
   simp only [RF.putF, Act.put, List.setIfInBounds_toArray, List.set_cons_succ, List.set_cons_zero]
   change wpQuiet _ _ _ _ [_, _, _, _, _] _
   repeat (go_big_quiet_step (fail))
   exact wpQuiet_nil rfl
  case q2b =>
   refine ⟨⟨?_, trivial⟩, ⟨?_, trivial⟩, trivial⟩
   ·intro s G u hC hk hw
    rw [show (execOp _ _).run Tryz.prog u = .ok (.enter 34 #[.pointer (some ⟨pb, 0, none⟩), G 5]) u by kernel_rfl]
    refine CW.call hC hk rfl (fun d e => by cases e; rfl) fun v hv hc ha => ?_
    obtain ⟨g, eg, hg, og⟩ := ha 0 _ rfl (hw 1 0 5 rfl (by kernel_rfl))
    rw [show G 5 = _ from eg]
    refine (wf_c (n := 1) (c := 1) hv (ns1 hg) (fun _ => offs_of og (by omega)) (fun i _ => ⟨hr1, hr2⟩) (by show List.length (l ++ nb 1 1) + 8 * 1 ≤ _; simp only [List.length_append, nb_len]; omega)).mono ?_
    rintro e u' ⟨rfl, v', h1, h2⟩
    exact ⟨rfl, v', h1, h2⟩
   ·intro s G u hC hk hw
    rw [show (execOp _ _).run Tryz.prog u = .ok (.value (.slice (some ⟨u.heap.size, 0, none⟩) 1 1)) (u.alloc (.cells #[.int .i64 r] 26)) by kernel_rfl]
    exact CW.make (i := 0) hC _ rfl rfl (fun i' a' h hne => by
     match i', h with
     | 0, h => exact absurd rfl hne
     | n + 1, h => simp at h)
  case q2c =>
   intro G u2 hu
   obtain ⟨v2, hv2, hc2, _⟩ := hu
   have HV2 : Hid (Wv u2 pb v2 (l ++ nb 1 1 ++ fB (fun _ => r) 1)) := hv2
   have HC2 := hid hc2
   clear hv2 hc2 e0 e1 e2
   simp only [RF.AG, Act.put, List.setIfInBounds_toArray, List.set_cons_succ, List.set_cons_zero]
   go_wp2_with fail
   refine cvoid_end rfl rfl ⟨rfl, v2, ?_, ((Wc.rfl_ _ _ _).made KW.out).then_ (HC1.out.then_ HC2.out)⟩
   have h := HV2.out
   rw [fB1, List.append_assoc] at h
   exact h
theorem wshape2_c {pb n c : Nat} {v : Value} {l : List Nat} {k r : Int} {ao : Option Addr} {f : Cs} {w : World} (hW : Wv w pb v l) (hr : I64 r) (hs : Sl w ao n f) (hX : 0 < n → Offs (OwnW pb v) ao) (hf : Cin f n) (hn : l.length + 16 * n + 32 ≤ 549755813888) :
  Calls Tryz.prog 70 #[.pointer (some ⟨pb, 0, none⟩), .agg #[.int .i64 2, .int .i64 r, .slice ao n c]] w fun e w' => e = .returned (.tuple #[]) ∧ ∃ v', Wv w' pb v' (l ++ shB 2 r n f) ∧ Wc pb w w' v v' := by
 have hk : I64 2 := by unfold I64; omega
 have HW := hid hW
 have HS := hid hs
 have HX := hid hX
 have HF := hid hf
 have hk1 := hk.1; have hk2 := hk.2
 have hr1 := hr.1; have hr2 := hr.2
 obtain ⟨W, eW⟩ : ∃ W, W = w.alloc (.cells #[.int .i64 2, .int .i64 r, .slice ao n c] 33) := ⟨_, rfl⟩
 have KW : Hid (Made w.heap.size w W) := by unfold Hid; rw [eW]; exact (Made.rfl_ _ _).cells (Nat.le_refl _) _ _
 obtain ⟨g1, eg1⟩ : ∃ g, w.heap.size = g := ⟨_, rfl⟩
 have HB : Hid (Has W g1 33 #[.int .i64 2, .int .i64 r, .slice ao n c]) := by unfold Hid; rw [eW, ← eg1]; exact has_new _ _ _
 have HG : Hid (¬ OwnW pb v g1) := HW.out.off (.inr (Nat.le_of_eq eg1))
 have HW1 := hid (HW.out.kept KW.out)
 have d0 : W.cell? ⟨g1, 0, none⟩ = some (.int .i64 2) := HB.out.at_ 0
 have d1 : W.cell? ⟨g1, 1, none⟩ = some (.int .i64 r) := HB.out.at_ 1
 have d2 : W.cell? ⟨g1, 2, none⟩ = some (.slice ao n c) := HB.out.at_ 2
 clear hW hs hX hf hk hr
 go_enter Tryz.func70, Tryz.ntmps70
 go_upto_region 1 with fail
 rw [← eW]
 clear eW
 try rw [eg1]
 clear eg1
 refine RF.reg_flow (CW W pb v [l, l ++ nb 1 2] []) [[5]] [] [0, 1, 2, 3, 4] [(9, .pointer (some ⟨pb, 0, none⟩))] 33 (by kernel_rfl) (CW.start HW1.out) (by kernel_rfl) rfl (by kernel_rfl) (by kernel_rfl) ?_
 apply Exists.intro
 refine ⟨?q3a, ?q3b, ?q3c⟩
 case q3a =>
  intro s G Ty hT f hf
  have d0 := CW.reads hf d0 HG.out
  clear hf
  simp only [RF.putF, Act.put, List.setIfInBounds_toArray, List.set_cons_succ, List.set_cons_zero]
  change wpQuiet _ _ _ _ [_, _, _, _, _] _
  repeat (go_big_quiet_step (fail))
  exact wpQuiet_nil rfl
 case q3b =>
  refine ⟨⟨?_, trivial⟩, trivial⟩
  ·intro s G u hC hk hw
   rw [show (execOp _ _).run Tryz.prog u = .ok (.enter 19 #[.pointer (some ⟨pb, 0, none⟩), .int .i64 1, .int .i64 2]) u by kernel_rfl]
   refine CW.call hC hk rfl (fun d e => by cases e; rfl) fun v hv hc ha => ?_
   refine (wnum_c (m := 1) hv (by omega) (by show List.length (l)  ≤ _; omega) (by omega) (by omega)).mono ?_
   rintro e u' ⟨rfl, v', h1, h2⟩
   exact ⟨rfl, v', h1, h2⟩
 case q3c =>
  intro G u hu
  obtain ⟨v1, hv1, hc1, _⟩ := hu
  have HV1 : Hid (Wv u pb v1 (l ++ nb 1 2)) := hv1
  have HC1 := hid hc1
  have e0 := hc1.but.cell d0 HG.out
  have e1 := hc1.but.cell d1 HG.out
  have e2 := hc1.but.cell d2 HG.out
  have HG2 := hid (hc1.offs HB.out.here HG.out)
  have HS2 : Hid (Sl u ao n f) := (Sl.kept HS.out KW.out : Sl W ao n f) |> fun h hn => by
   obtain ⟨b, off, e, hp⟩ := h hn
   exact ⟨b, off, e, hp.but HC1.out.but (HX.out hn b off none e)⟩
  have HX2 : Hid (0 < n → Offs (OwnW pb v1) ao) := fun hn b off s e => by
   obtain ⟨b', off', e', hp⟩ := (Sl.kept HS.out KW.out : Sl W ao n f) hn
   rw [e] at e'; cases e'
   exact HC1.out.offs (World.block_lt_of_cell? _ _ (hp 0 hn).1) (HX.out hn b off none e)
  clear hv1 hc1 d0 d1 d2
  simp only [RF.AG]
  go_upto_region 6 with fail
  refine RF.reg_flow (CW u pb v1 [l ++ nb 1 2, l ++ nb 1 2 ++ nb 1 (n : Nat), l ++ nb 1 2 ++ nb 1 (n : Nat) ++ vB f n] []) [[6, 9]] [] [0, 1, 2, 3, 4, 5, 7, 8] [(29, .pointer (some ⟨pb, 0, none⟩)), (32, .pointer (some ⟨pb, 0, none⟩))] 33 (by kernel_rfl) (CW.start HV1.out) (by kernel_rfl) rfl (by kernel_rfl) (by kernel_rfl) ?_
  apply Exists.intro
  refine ⟨?q4a, ?q4b, ?q4c⟩
  case q4a =>
   intro s G Ty hT f hf
   have z2 := CW.reads hf e2 HG2.out
   clear hf
   simp only [RF.putF, Act.put, List.setIfInBounds_toArray, List.set_cons_succ, List.set_cons_zero]
   change wpQuiet _ _ _ _ [_, _, _, _, _, _, _, _] _
   repeat (go_big_quiet_step (fail))
   exact wpQuiet_nil rfl
  case q4b =>
   refine ⟨⟨?_, ?_, trivial⟩, trivial⟩
   ·intro s G u hC hk hw
    rw [show (execOp _ _).run Tryz.prog u = .ok (.enter 19 #[.pointer (some ⟨pb, 0, none⟩), .int .i64 1, .int .i64 (n : Nat)]) u by kernel_rfl]
    refine CW.call hC hk rfl (fun d e => by cases e; rfl) fun v hv hc ha => ?_
    refine (wnum_c (m := 1) hv (by omega) (by show List.length (l ++ nb 1 2)  ≤ _; simp only [List.length_append, nb_len]; omega) (by omega) (by omega)).mono ?_
    rintro e u' ⟨rfl, v', h1, h2⟩
    exact ⟨rfl, v', h1, h2⟩
   ·intro s G u hC hk hw
    rw [show (execOp _ _).run Tryz.prog u = .ok (.enter 20 #[.pointer (some ⟨pb, 0, none⟩), .slice ao n c]) u by kernel_rfl]
    refine CW.call hC hk rfl (fun d e => by cases e; rfl) fun v hv hc ha => ?_
    refine (wv_c (f := f) hv (fun h => by obtain ⟨b, off, e, hp⟩ := HS2.out h; exact ⟨b, off, e, hp.but hc.but (HX2.out h b off none e)⟩) (fun h b off s e => by obtain ⟨b', off', e', hp⟩ := HS2.out h; rw [e] at e'; cases e'; exact hc.offs (World.block_lt_of_cell? _ _ (hp 0 h).1) (HX2.out h b off none e)) HF.out (by show List.length (l ++ nb 1 2 ++ nb 1 (n : Nat)) + 16 * n ≤ _; simp only [List.length_append, nb_len]; omega)).mono ?_
    rintro e u' ⟨rfl, v', h1, h2⟩
    exact ⟨rfl, v', h1, h2⟩
  case q4c =>
   intro G u2 hu
   obtain ⟨v2, hv2, hc2, _⟩ := hu
   have HV2 : Hid (Wv u2 pb v2 (l ++ nb 1 2 ++ nb 1 (n : Nat) ++ vB f n)) := hv2
   have HC2 := hid hc2
   clear hv2 hc2 e0 e1 e2
   simp only [RF.AG]
   go_wp2_with fail
   refine cvoid_end rfl rfl ⟨rfl, v2, ?_, ((Wc.rfl_ _ _ _).made KW.out).then_ (HC1.out.then_ HC2.out)⟩
   have h := HV2.out
   rw [List.append_assoc, List.append_assoc] at h
   exact h
theorem wshape0_c {pb n c : Nat} {v : Value} {l : List Nat} {k r : Int} {ao : Option Addr} {f : Cs} {w : World} (hW : Wv w pb v l) (hk : I64 k) (hr : I64 r) (hs : Sl w ao n f) (hX : 0 < n → Offs (OwnW pb v) ao) (hf : Cin f n) (hn : l.length + 16 * n + 32 ≤ 549755813888) (h1 : k ≠ 1) (h2 : k ≠ 2) :
  Calls Tryz.prog 70 #[.pointer (some ⟨pb, 0, none⟩), .agg #[.int .i64 k, .int .i64 r, .slice ao n c]] w fun e w' => e = .returned (.tuple #[]) ∧ ∃ v', Wv w' pb v' (l ++ shB k r n f) ∧ Wc pb w w' v v' := by
 have q1 : (k == 1) = false := by rw [beq_eq_false_iff_ne]; exact h1
 have q2 : (k == 2) = false := by rw [beq_eq_false_iff_ne]; exact h2
 have HW := hid hW
 have HS := hid hs
 have HX := hid hX
 have HF := hid hf
 have hk1 := hk.1; have hk2 := hk.2
 have hr1 := hr.1; have hr2 := hr.2
 obtain ⟨W, eW⟩ : ∃ W, W = w.alloc (.cells #[.int .i64 k, .int .i64 r, .slice ao n c] 33) := ⟨_, rfl⟩
 have KW : Hid (Made w.heap.size w W) := by unfold Hid; rw [eW]; exact (Made.rfl_ _ _).cells (Nat.le_refl _) _ _
 obtain ⟨g1, eg1⟩ : ∃ g, w.heap.size = g := ⟨_, rfl⟩
 have HB : Hid (Has W g1 33 #[.int .i64 k, .int .i64 r, .slice ao n c]) := by unfold Hid; rw [eW, ← eg1]; exact has_new _ _ _
 have HG : Hid (¬ OwnW pb v g1) := HW.out.off (.inr (Nat.le_of_eq eg1))
 have HW1 := hid (HW.out.kept KW.out)
 have d0 : W.cell? ⟨g1, 0, none⟩ = some (.int .i64 k) := HB.out.at_ 0
 have d1 : W.cell? ⟨g1, 1, none⟩ = some (.int .i64 r) := HB.out.at_ 1
 have d2 : W.cell? ⟨g1, 2, none⟩ = some (.slice ao n c) := HB.out.at_ 2
 clear hW hs hX hf hk hr
 go_enter Tryz.func70, Tryz.ntmps70
 go_upto_region 1 with fail
 rw [← eW]
 clear eW
 try rw [eg1]
 clear eg1
 refine RF.reg_flow (CW W pb v [l, l ++ nb 1 k] []) [[5]] [] [0, 1, 2, 3, 4] [(9, .pointer (some ⟨pb, 0, none⟩))] 33 (by kernel_rfl) (CW.start HW1.out) (by kernel_rfl) rfl (by kernel_rfl) (by kernel_rfl) ?_
 apply Exists.intro
 refine ⟨?q5a, ?q5b, ?q5c⟩
 case q5a =>
  intro s G Ty hT f hf
  have d0 := CW.reads hf d0 HG.out
  clear hf
  simp only [RF.putF, Act.put, List.setIfInBounds_toArray, List.set_cons_succ, List.set_cons_zero]
  change wpQuiet _ _ _ _ [_, _, _, _, _] _
  repeat (go_big_quiet_step (fail))
  exact wpQuiet_nil rfl
 case q5b =>
  refine ⟨⟨?_, trivial⟩, trivial⟩
  ·intro s G u hC hk hw
   rw [show (execOp _ _).run Tryz.prog u = .ok (.enter 19 #[.pointer (some ⟨pb, 0, none⟩), .int .i64 1, .int .i64 k]) u by kernel_rfl]
   refine CW.call hC hk rfl (fun d e => by cases e; rfl) fun v hv hc ha => ?_
   refine (wnum_c (m := 1) hv (by omega) (by show List.length (l)  ≤ _; omega) (by omega) (by omega)).mono ?_
   rintro e u' ⟨rfl, v', h1, h2⟩
   exact ⟨rfl, v', h1, h2⟩
 case q5c =>
  intro G u hu
  obtain ⟨v1, hv1, hc1, _⟩ := hu
  have HV1 : Hid (Wv u pb v1 (l ++ nb 1 k)) := hv1
  have HC1 := hid hc1
  have e0 := hc1.but.cell d0 HG.out
  have e1 := hc1.but.cell d1 HG.out
  have e2 := hc1.but.cell d2 HG.out
  have HG2 := hid (hc1.offs HB.out.here HG.out)
  have HS2 : Hid (Sl u ao n f) := (Sl.kept HS.out KW.out : Sl W ao n f) |> fun h hn => by
   obtain ⟨b, off, e, hp⟩ := h hn
   exact ⟨b, off, e, hp.but HC1.out.but (HX.out hn b off none e)⟩
  have HX2 : Hid (0 < n → Offs (OwnW pb v1) ao) := fun hn b off s e => by
   obtain ⟨b', off', e', hp⟩ := (Sl.kept HS.out KW.out : Sl W ao n f) hn
   rw [e] at e'; cases e'
   exact HC1.out.offs (World.block_lt_of_cell? _ _ (hp 0 hn).1) (HX.out hn b off none e)
  clear hv1 hc1 d0 d1 d2
  simp only [RF.AG]
  clear e1 e2
  go_wp2_with fail
  refine cvoid_end rfl rfl ⟨rfl, v1, ?_, ((Wc.rfl_ _ _ _).made KW.out).then_ HC1.out⟩
  unfold shB
  rw [if_neg h1, if_neg h2, List.append_nil]
  exact HV1.out
theorem wshape_c {pb n c : Nat} {v : Value} {l : List Nat} {k r : Int} {ao : Option Addr} {f : Cs} {w : World} (hW : Wv w pb v l) (hk : I64 k) (hr : I64 r) (hs : Sl w ao n f) (hX : 0 < n → Offs (OwnW pb v) ao) (hf : Cin f n) (hn : l.length + 16 * n + 32 ≤ 549755813888) :
  Calls Tryz.prog 70 #[.pointer (some ⟨pb, 0, none⟩), .agg #[.int .i64 k, .int .i64 r, .slice ao n c]] w fun e w' => e = .returned (.tuple #[]) ∧ ∃ v', Wv w' pb v' (l ++ shB k r n f) ∧ Wc pb w w' v v' := by
 by_cases h1 : k = 1
 ·subst h1; exact wshape1_c (k := 0) hW hr hs hX hf hn
 ·by_cases h2 : k = 2
  ·subst h2; exact wshape2_c (k := 0) hW hr hs hX hf hn
  ·exact wshape0_c hW hk hr hs hX hf hn h1 h2
end Go.Proofs.YtgdcphmmehedoaaGreat.Fx
/- Package world: what may be, a body and a joint by itself; numbers compared. -/
namespace Go.Proofs.YtgdcphmmehedoaaGreat.Fx
open Go.ChangeShapes Go.WideShapes Go.ChangeAt Go.RowKit
set_option linter.unusedVariables false
theorem bring_inn {a lo hi : Int} (ha : I64 a) (h0 : -9223372036854775807 ≤ lo) (h1 : lo ≤ hi) (h2 : hi ≤ 9223372036854775807) : (a == bringF a lo hi) = true ↔ lo ≤ a ∧ a ≤ hi := by
 unfold I64 at ha
 unfold bringF cl
 simp only [beq_iff_eq]
 (repeat' split) <;> omega
theorem veql (a b c d : Int) (r : Bool) (hr : r = true ↔ a = c ∧ b = d) (w : World) : (binOp .eql 28 (vecV a b) (vecV c d)).run Tryz.prog w = .ok (.bool r) w := by
 by_cases h1 : a = c
 ·by_cases h2 : b = d
  ·have e : r = true := hr.2 ⟨h1, h2⟩
   subst h1; subst h2; subst e
   go_simp
  ·have e : r = false := Bool.eq_false_iff.2 fun h => h2 (hr.1 h).2
   have hy : (b == d) = false := by simpa using h2
   subst h1; subst e
   go_simp
 ·have e : r = false := Bool.eq_false_iff.2 fun h => h1 (hr.1 h).1
  have hx : (a == c) = false := by simpa using h1
  subst e
  go_simp
theorem lies_c (a lo hi : Int) (r : Bool) (w : World) (ha : I64 a) (h0 : -9223372036854775807 ≤ lo) (h1 : lo ≤ hi) (h2 : hi ≤ 9223372036854775807) (hr : r = true ↔ lo ≤ a ∧ a ≤ hi) :
  Calls Tryz.prog 103 #[.int .i64 a, .int .i64 lo, .int .i64 hi] w fun e w' => e = .returned (.bool r) ∧ Made w.heap.size w w' := by
 obtain ⟨z, ez⟩ : ∃ z, bringF a lo hi = z := ⟨_, rfl⟩
 have HR : Hid ((a == z) = r) := by
  unfold Hid
  rw [Bool.eq_iff_iff, hr, ← ez]
  exact bring_inn ha h0 h1 h2
 have EZ := hid ez
 have il : I64 lo := by unfold I64; omega
 have ih : I64 hi := by unfold I64; omega
 clear hr ez h0 h1 h2
 go_enter Tryz.func103, Tryz.ntmps103
 go_wp2_with fail
 refine (bring_is _ _ _ _ _ ha il ih EZ.out).mono ?_
 rintro e w' ⟨rfl, rfl⟩
 have hq := HR.out
 go_wp2_with fail
 go_ret
 exact ⟨rfl, Made.rfl_ _ _⟩
theorem within_c (a b m : Int) (r : Bool) (w : World) (ha : I64 a) (hb : I64 b) (h0 : 0 ≤ m) (h1 : m ≤ 4611686018427387904) (hr : r = true ↔ Inn a m ∧ Inn b m) :
  Calls Tryz.prog 96 #[vecV a b, .int .i64 m] w fun e w' => e = .returned (.bool r) ∧ Made w.heap.size w w' := by
 obtain ⟨x, ex⟩ : ∃ z, bringF a (-m) m = z := ⟨_, rfl⟩
 obtain ⟨y, ey⟩ : ∃ z, bringF b (-m) m = z := ⟨_, rfl⟩
 have q := veql a b x y r (by
  rw [hr, ← ex, ← ey]
  have A := bring_inn ha (lo := -m) (hi := m) (by omega) (by omega) (by omega)
  have B := bring_inn hb (lo := -m) (hi := m) (by omega) (by omega) (by omega)
  simp only [beq_iff_eq] at A B
  exact ⟨fun h => ⟨A.2 h.1, B.2 h.2⟩, fun h => ⟨A.1 h.1, B.1 h.2⟩⟩)
 have EX := hid ex
 have EY := hid ey
 have im : I64 m := by unfold I64; omega
 have il : I64 (-m) := by unfold I64; omega
 obtain ⟨nm, en⟩ : ∃ z, -m = z := ⟨_, rfl⟩
 have hneg : IntKind.i64.wrap (-m) = nm := by rw [← en]; simp [IntKind.wrap, IntKind.bits, IntKind.signed]; omega
 rw [en] at EX EY il
 clear hr ex ey en
 go_enter Tryz.func96, Tryz.ntmps96
 go_wp2_with fail
 refine reg_made (by kernel_rfl) (by kernel_rfl) ?_
 intro T hT fw hf
 have x0 := Class.reads hf (p := ⟨w.heap.size, 0, none⟩) (u := .int .i64 a) (by go_simp)
 have x1 := Class.reads hf (p := ⟨w.heap.size, 1, none⟩) (u := .int .i64 b) (by go_simp)
 repeat (go_big_quiet_step ((first
  | (go_at_call 82; with_reducible exact hf.same (bring_is _ _ _ _ _ ha il im EX.out))
  | (go_at_call 82; with_reducible exact hf.same (bring_is _ _ _ _ _ hb il im EY.out)))))
 refine wpQuiet_nil ?_
 intro w3 h3
 have k3 := hf.here h3
 go_wp2_with fail
 go_ret
 exact ⟨rfl, made_box k3⟩
theorem still_c (i x y vx vy an sp d K R : Int) (ao : Option Addr) (n c : Nat) (r : Bool) (w : World) (hr : r = true ↔ vx = 0 ∧ vy = 0 ∧ sp = 0) :
  Calls Tryz.prog 104 #[bodyV i x y vx vy an sp d K R (.slice ao n c)] w fun e w' => e = .returned (.bool r) ∧ Made w.heap.size w w' := by
 by_cases h : vx = 0 ∧ vy = 0
 ·have q := veql vx vy 0 0 true ⟨fun _ => h, fun _ => rfl⟩
  have HR : Hid ((sp == 0) = r) := by
   unfold Hid; rw [Bool.eq_iff_iff, hr]; simp only [beq_iff_eq]; exact ⟨fun e => ⟨h.1, h.2, e⟩, fun e => e.2.2⟩
  clear hr h
  go_enter Tryz.func104, Tryz.ntmps104
  go_wp2_with fail
  go_ret
  exact ⟨by rw [← HR.out]; rfl, (Made.rfl_ _ _).cells (Nat.le_refl _) _ _⟩
 ·have q := veql vx vy 0 0 false ⟨fun e => (by cases e), fun e => absurd e h⟩
  have HR : Hid (r = false) := Bool.eq_false_iff.2 fun e => h ⟨(hr.1 e).1, (hr.1 e).2.1⟩
  clear hr h
  go_enter Tryz.func104, Tryz.ntmps104
  go_wp2_with fail
  go_ret
  exact ⟨by rw [HR.out]; rfl, (Made.rfl_ _ _).cells (Nat.le_refl _) _ _⟩
theorem a_bool (P : Prop) : ∃ r : Bool, r = true ↔ P := by
 by_cases h : P
 ·exact ⟨true, ⟨fun _ => h, fun _ => rfl⟩⟩
 ·exact ⟨false, ⟨fun e => (by cases e), fun e => absurd e h⟩⟩
theorem rbody_c (i x y vx vy an sp d K R : Int) (ao : Option Addr) (n c : Nat) (f : Cs) (r : Bool) (w : World) (hs : Sl w ao n f) (hi : BdI ⟨i, x, y, vx, vy, an, sp, d, K, R, ao, n, c, f⟩) (hr : r = true ↔ BodyP ⟨i, x, y, vx, vy, an, sp, d, K, R, ao, n, c, f⟩) :
  Calls Tryz.prog 77 #[bodyV i x y vx vy an sp d K R (.slice ao n c)] w fun e w' => e = .returned (.bool r) ∧ Made w.heap.size w w' := by
 obtain ⟨c0, h0⟩ := a_bool (RightP K R n f)
 obtain ⟨c1, h1⟩ := a_bool (Inn x 4503599627370496 ∧ Inn y 4503599627370496)
 obtain ⟨c2, h2⟩ := a_bool (Inn vx 17592186044416 ∧ Inn vy 17592186044416)
 obtain ⟨c3, h3⟩ := a_bool (-1099511627776 ≤ sp ∧ sp ≤ 1099511627776)
 obtain ⟨c4, h4⟩ := a_bool (0 ≤ an ∧ an ≤ 4294967295)
 obtain ⟨c5, h5⟩ := a_bool (0 ≤ d ∧ d ≤ 4398046511104)
 obtain ⟨c6, h6⟩ := a_bool (vx = 0 ∧ vy = 0 ∧ sp = 0)
 have H0 := hid h0
 have H1 := hid h1
 have H2 := hid h2
 have H3 := hid h3
 have H4 := hid h4
 have H5 := hid h5
 have H6 := hid h6
 have HR : Hid (r = true ↔ (((((c0 = true ∧ c1 = true) ∧ c2 = true) ∧ c3 = true) ∧ c4 = true) ∧ c5 = true) ∧ (d = 0 → c6 = true)) := by
  unfold Hid
  rw [hr, h0, h1, h2, h3, h4, h5, h6]
  constructor
  ·intro h; exact ⟨⟨⟨⟨⟨⟨h.shape, h.x, h.y⟩, h.vx, h.vy⟩, h.sp⟩, h.an⟩, h.de⟩, h.still⟩
  ·rintro ⟨⟨⟨⟨⟨⟨a0, a1, a2⟩, a3, a4⟩, a5⟩, a6⟩, a7⟩, a8⟩; exact ⟨a0, a1, a2, a3, a4, a5, a6, a7, a8⟩
 have HS : Hid (∀ v, Made w.heap.size w v → Sl v ao n f) := fun v k hn => by
  obtain ⟨b, off, e, hp⟩ := hs hn
  exact ⟨b, off, e, hp.kept k⟩
 have HI := hid hi
 clear h0 h1 h2 h3 h4 h5 h6 hr hs hi
 obtain ⟨W, eW⟩ : ∃ W, W = w.alloc (.cells #[.int .i64 i, .int .i64 x, .int .i64 y, .int .i64 vx, .int .i64 vy, .int .i64 an, .int .i64 sp, .int .i64 d, .int .i64 K, .int .i64 R, .slice ao n c] 35) := ⟨_, rfl⟩
 have KK : Hid (Made w.heap.size w W) := by unfold Hid; rw [eW]; exact (Made.rfl_ _ _).cells (Nat.le_refl _) _ _
 have HB : Hid (Has W w.heap.size 35 #[.int .i64 i, .int .i64 x, .int .i64 y, .int .i64 vx, .int .i64 vy, .int .i64 an, .int .i64 sp, .int .i64 d, .int .i64 K, .int .i64 R, .slice ao n c]) := by unfold Hid; rw [eW]; exact has_new _ _ _
 obtain ⟨g0, eg⟩ : ∃ g, w.heap.size = g := ⟨_, rfl⟩
 have e2 : w.heap.size = g0 := eg
 go_enter Tryz.func77, Tryz.ntmps77
 rw [eg] at HB
 have b0 := HB.out.at_ 0
 have b1 := HB.out.at_ 1
 have b2 := HB.out.at_ 2
 have b3 := HB.out.at_ 3
 have b4 := HB.out.at_ 4
 have b5 := HB.out.at_ 5
 have b6 := HB.out.at_ 6
 have b7 := HB.out.at_ 7
 have b8 := HB.out.at_ 8
 have b9 := HB.out.at_ 9
 have b10 := HB.out.at_ 10
 simp at b0 b1 b2 b3 b4 b5 b6 b7 b8 b9 b10
 have lt0 : g0 < W.heap.size := HB.out.here
 go_upto_region 1 with fail
 rw [← eW]
 clear eW
 try rw [eg]
 go_wp2_with fail
 refine (right_is K R ao n c f _ (HS.out _ KK.out) HI.out.f c0 H0.out).mono ?_
 rintro e w1 ⟨rfl, k⟩
 have K1 : Hid (Made w.heap.size w w1) := KK.out.then_ (k.low KK.out.1.size)
 have HB1 := hid (HB.out.stays k HB.out.here)
 clear k b0 b1 b2 b3 b4 b5 b6 b7 b8 b9 b10
 cases c0 with
 | false =>
  have hF : Hid (r = false) := Bool.eq_false_iff.2 fun e => by have := HR.out.1 e; simp at this
  go_wp2_with fail
  go_ret
  exact ⟨by rw [hF.out]; rfl, K1.out⟩
 | true =>
  have b0 := HB1.out.at_ 0
  have b1 := HB1.out.at_ 1
  have b2 := HB1.out.at_ 2
  have b3 := HB1.out.at_ 3
  have b4 := HB1.out.at_ 4
  have b5 := HB1.out.at_ 5
  have b6 := HB1.out.at_ 6
  have b7 := HB1.out.at_ 7
  have b8 := HB1.out.at_ 8
  have b9 := HB1.out.at_ 9
  have b10 := HB1.out.at_ 10
  simp at b0 b1 b2 b3 b4 b5 b6 b7 b8 b9 b10
  go_wp2_with fail
  refine (within_c x y 4503599627370496 c1 _ HI.out.x HI.out.y (by omega) (by omega) H1.out).mono ?_
  rintro e w2 ⟨rfl, k⟩
  have K2 : Hid (Made w.heap.size w w2) := K1.out.then_ (k.low K1.out.1.size)
  have HB2 := hid (HB1.out.stays k HB1.out.here)
  clear k b0 b1 b2 b3 b4 b5 b6 b7 b8 b9 b10
  cases c1 with
  | false =>
   have hF : Hid (r = false) := Bool.eq_false_iff.2 fun e => by have := HR.out.1 e; simp at this
   go_wp2_with fail
   go_ret
   exact ⟨by rw [hF.out]; rfl, K2.out⟩
  | true =>
   have b0 := HB2.out.at_ 0
   have b1 := HB2.out.at_ 1
   have b2 := HB2.out.at_ 2
   have b3 := HB2.out.at_ 3
   have b4 := HB2.out.at_ 4
   have b5 := HB2.out.at_ 5
   have b6 := HB2.out.at_ 6
   have b7 := HB2.out.at_ 7
   have b8 := HB2.out.at_ 8
   have b9 := HB2.out.at_ 9
   have b10 := HB2.out.at_ 10
   simp at b0 b1 b2 b3 b4 b5 b6 b7 b8 b9 b10
   go_wp2_with fail
   refine (within_c vx vy 17592186044416 c2 _ HI.out.vx HI.out.vy (by omega) (by omega) H2.out).mono ?_
   rintro e w3 ⟨rfl, k⟩
   have K3 : Hid (Made w.heap.size w w3) := K2.out.then_ (k.low K2.out.1.size)
   have HB3 := hid (HB2.out.stays k HB2.out.here)
   clear k b0 b1 b2 b3 b4 b5 b6 b7 b8 b9 b10
   cases c2 with
   | false =>
    have hF : Hid (r = false) := Bool.eq_false_iff.2 fun e => by have := HR.out.1 e; simp at this
    go_wp2_with fail
    go_ret
    exact ⟨by rw [hF.out]; rfl, K3.out⟩
   | true =>
    have b0 := HB3.out.at_ 0
    have b1 := HB3.out.at_ 1
    have b2 := HB3.out.at_ 2
    have b3 := HB3.out.at_ 3
    have b4 := HB3.out.at_ 4
    have b5 := HB3.out.at_ 5
    have b6 := HB3.out.at_ 6
    have b7 := HB3.out.at_ 7
    have b8 := HB3.out.at_ 8
    have b9 := HB3.out.at_ 9
    have b10 := HB3.out.at_ 10
    simp at b0 b1 b2 b3 b4 b5 b6 b7 b8 b9 b10
    go_wp2_with fail
    refine (lies_c sp (-1099511627776) 1099511627776 c3 _ HI.out.sp (by omega) (by omega) (by omega) H3.out).mono ?_
    rintro e w4 ⟨rfl, k⟩
    have K4 : Hid (Made w.heap.size w w4) := K3.out.then_ (k.low K3.out.1.size)
    have HB4 := hid (HB3.out.stays k HB3.out.here)
    clear k b0 b1 b2 b3 b4 b5 b6 b7 b8 b9 b10
    cases c3 with
    | false =>
     have hF : Hid (r = false) := Bool.eq_false_iff.2 fun e => by have := HR.out.1 e; simp at this
     go_wp2_with fail
     go_ret
     exact ⟨by rw [hF.out]; rfl, K4.out⟩
    | true =>
     have b0 := HB4.out.at_ 0
     have b1 := HB4.out.at_ 1
     have b2 := HB4.out.at_ 2
     have b3 := HB4.out.at_ 3
     have b4 := HB4.out.at_ 4
     have b5 := HB4.out.at_ 5
     have b6 := HB4.out.at_ 6
     have b7 := HB4.out.at_ 7
     have b8 := HB4.out.at_ 8
     have b9 := HB4.out.at_ 9
     have b10 := HB4.out.at_ 10
     simp at b0 b1 b2 b3 b4 b5 b6 b7 b8 b9 b10
     go_wp2_with fail
     refine (lies_c an 0 4294967295 c4 _ HI.out.an (by omega) (by omega) (by omega) H4.out).mono ?_
     rintro e w5 ⟨rfl, k⟩
     have K5 : Hid (Made w.heap.size w w5) := K4.out.then_ (k.low K4.out.1.size)
     have HB5 := hid (HB4.out.stays k HB4.out.here)
     clear k b0 b1 b2 b3 b4 b5 b6 b7 b8 b9 b10
     cases c4 with
     | false =>
      have hF : Hid (r = false) := Bool.eq_false_iff.2 fun e => by have := HR.out.1 e; simp at this
      go_wp2_with fail
      go_ret
      exact ⟨by rw [hF.out]; rfl, K5.out⟩
     | true =>
      have b0 := HB5.out.at_ 0
      have b1 := HB5.out.at_ 1
      have b2 := HB5.out.at_ 2
      have b3 := HB5.out.at_ 3
      have b4 := HB5.out.at_ 4
      have b5 := HB5.out.at_ 5
      have b6 := HB5.out.at_ 6
      have b7 := HB5.out.at_ 7
      have b8 := HB5.out.at_ 8
      have b9 := HB5.out.at_ 9
      have b10 := HB5.out.at_ 10
      simp at b0 b1 b2 b3 b4 b5 b6 b7 b8 b9 b10
      go_wp2_with fail
      refine (lies_c d 0 4398046511104 c5 _ HI.out.de (by omega) (by omega) (by omega) H5.out).mono ?_
      rintro e w6 ⟨rfl, k⟩
      have K6 : Hid (Made w.heap.size w w6) := K5.out.then_ (k.low K5.out.1.size)
      have HB6 := hid (HB5.out.stays k HB5.out.here)
      clear k b0 b1 b2 b3 b4 b5 b6 b7 b8 b9 b10
      cases c5 with
      | false =>
       have hF : Hid (r = false) := Bool.eq_false_iff.2 fun e => by have := HR.out.1 e; simp at this
       go_wp2_with fail
       go_ret
       exact ⟨by rw [hF.out]; rfl, K6.out⟩
      | true =>
       have b0 := HB6.out.at_ 0
       have b1 := HB6.out.at_ 1
       have b2 := HB6.out.at_ 2
       have b3 := HB6.out.at_ 3
       have b4 := HB6.out.at_ 4
       have b5 := HB6.out.at_ 5
       have b6 := HB6.out.at_ 6
       have b7 := HB6.out.at_ 7
       have b8 := HB6.out.at_ 8
       have b9 := HB6.out.at_ 9
       have b10 := HB6.out.at_ 10
       simp at b0 b1 b2 b3 b4 b5 b6 b7 b8 b9 b10
       by_cases hd : d = 0
       ·have HR2 : Hid (r = c6) := by
         unfold Hid; rw [Bool.eq_iff_iff, HR.out]; simp [hd]
        have e0 : (d != 0) = false := by simp [hd]
        clear hd
        go_wp2_with fail
        refine (still_c i x y vx vy an sp d K R ao n c c6 _ H6.out).mono ?_
        rintro e w7 ⟨rfl, k⟩
        have K7 : Hid (Made w.heap.size w w7) := K6.out.then_ (k.low K6.out.1.size)
        clear k b0 b1 b2 b3 b4 b5 b6 b7 b8 b9 b10
        go_wp2_with fail
        go_ret
        exact ⟨by rw [HR2.out]; rfl, K7.out⟩
       ·have hT : Hid (r = true) := HR.out.2 ⟨by simp, fun e => absurd e hd⟩
        have e0 : (d != 0) = true := by simpa using hd
        clear hd
        go_wp2_with fail
        go_ret
        exact ⟨by rw [hT.out]; rfl, K6.out⟩
theorem rjoint_c (j : Jt) (r : Bool) (w : World) (hi : JtI j) (hr : r = true ↔ JointP j) :
  Calls Tryz.prog 79 #[jtV j] w fun e w' => e = .returned (.bool r) ∧ Made w.heap.size w w' := by
 obtain ⟨id, a, b, ax, ay, tx, ty, ln⟩ := j
 obtain ⟨c0, h0⟩ := a_bool (Inn ax 274877906944 ∧ Inn ay 274877906944)
 obtain ⟨c1, h1⟩ := a_bool (Inn tx 274877906944 ∧ Inn ty 274877906944)
 obtain ⟨c2, h2⟩ := a_bool (0 ≤ ln ∧ ln ≤ 4503599627370496)
 have H0 := hid h0
 have H1 := hid h1
 have H2 := hid h2
 have HR : Hid (r = true ↔ ((((c0 = true ∧ c1 = true) ∧ c2 = true) ∧ 1 ≤ a) ∧ 1 ≤ b) ∧ a ≠ b) := by
  unfold Hid
  rw [hr, h0, h1, h2]
  constructor
  ·intro h; exact ⟨⟨⟨⟨⟨⟨h.ax, h.ay⟩, h.tx, h.ty⟩, h.ln⟩, h.a⟩, h.b⟩, h.ab⟩
  ·rintro ⟨⟨⟨⟨⟨⟨a0, a1⟩, a2, a3⟩, a4⟩, a5⟩, a6⟩, a7⟩; exact ⟨a0, a1, a2, a3, a4, a5, a6, a7⟩
 obtain ⟨i0, i1, i2, i3, i4, i5, i6, i7⟩ := hi
 simp only [] at i0 i1 i2 i3 i4 i5 i6 i7
 clear h0 h1 h2 hr
 obtain ⟨W, eW⟩ : ∃ W, W = w.alloc (.cells #[.int .i64 id, .int .i64 a, .int .i64 b, .int .i64 ax, .int .i64 ay, .int .i64 tx, .int .i64 ty, .int .i64 ln] 102) := ⟨_, rfl⟩
 have KK : Hid (Made w.heap.size w W) := by unfold Hid; rw [eW]; exact (Made.rfl_ _ _).cells (Nat.le_refl _) _ _
 have HB : Hid (Has W w.heap.size 102 #[.int .i64 id, .int .i64 a, .int .i64 b, .int .i64 ax, .int .i64 ay, .int .i64 tx, .int .i64 ty, .int .i64 ln]) := by unfold Hid; rw [eW]; exact has_new _ _ _
 obtain ⟨g0, eg⟩ : ∃ g, w.heap.size = g := ⟨_, rfl⟩
 go_enter Tryz.func79, Tryz.ntmps79
 rw [eg] at HB
 have b0 := HB.out.at_ 0
 have b1 := HB.out.at_ 1
 have b2 := HB.out.at_ 2
 have b3 := HB.out.at_ 3
 have b4 := HB.out.at_ 4
 have b5 := HB.out.at_ 5
 have b6 := HB.out.at_ 6
 have b7 := HB.out.at_ 7
 simp at b0 b1 b2 b3 b4 b5 b6 b7
 have lt0 : g0 < W.heap.size := HB.out.here
 go_upto_region 1 with fail
 rw [← eW]
 clear eW
 try rw [eg]
 go_wp2_with fail
 refine (within_c ax ay 274877906944 c0 _ i3 i4 (by omega) (by omega) H0.out).mono ?_
 rintro e w1 ⟨rfl, k⟩
 have K1 : Hid (Made w.heap.size w w1) := KK.out.then_ (k.low KK.out.1.size)
 have HB1 := hid (HB.out.stays k HB.out.here)
 clear k b0 b1 b2 b3 b4 b5 b6 b7
 cases c0 with
 | false =>
  have hF : Hid (r = false) := Bool.eq_false_iff.2 fun e => by have := HR.out.1 e; simp at this
  go_wp2_with fail
  go_ret
  exact ⟨by rw [hF.out]; rfl, K1.out⟩
 | true =>
  have b0 := HB1.out.at_ 0
  have b1 := HB1.out.at_ 1
  have b2 := HB1.out.at_ 2
  have b3 := HB1.out.at_ 3
  have b4 := HB1.out.at_ 4
  have b5 := HB1.out.at_ 5
  have b6 := HB1.out.at_ 6
  have b7 := HB1.out.at_ 7
  simp at b0 b1 b2 b3 b4 b5 b6 b7
  go_wp2_with fail
  refine (within_c tx ty 274877906944 c1 _ i5 i6 (by omega) (by omega) H1.out).mono ?_
  rintro e w2 ⟨rfl, k⟩
  have K2 : Hid (Made w.heap.size w w2) := K1.out.then_ (k.low K1.out.1.size)
  have HB2 := hid (HB1.out.stays k HB1.out.here)
  clear k b0 b1 b2 b3 b4 b5 b6 b7
  cases c1 with
  | false =>
   have hF : Hid (r = false) := Bool.eq_false_iff.2 fun e => by have := HR.out.1 e; simp at this
   go_wp2_with fail
   go_ret
   exact ⟨by rw [hF.out]; rfl, K2.out⟩
  | true =>
   have b0 := HB2.out.at_ 0
   have b1 := HB2.out.at_ 1
   have b2 := HB2.out.at_ 2
   have b3 := HB2.out.at_ 3
   have b4 := HB2.out.at_ 4
   have b5 := HB2.out.at_ 5
   have b6 := HB2.out.at_ 6
   have b7 := HB2.out.at_ 7
   simp at b0 b1 b2 b3 b4 b5 b6 b7
   go_wp2_with fail
   refine (lies_c ln 0 4503599627370496 c2 _ i7 (by omega) (by omega) (by omega) H2.out).mono ?_
   rintro e w3 ⟨rfl, k⟩
   have K3 : Hid (Made w.heap.size w w3) := K2.out.then_ (k.low K2.out.1.size)
   have HB3 := hid (HB2.out.stays k HB2.out.here)
   clear k b0 b1 b2 b3 b4 b5 b6 b7
   cases c2 with
   | false =>
    have hF : Hid (r = false) := Bool.eq_false_iff.2 fun e => by have := HR.out.1 e; simp at this
    go_wp2_with fail
    go_ret
    exact ⟨by rw [hF.out]; rfl, K3.out⟩
   | true =>
    have b0 := HB3.out.at_ 0
    have b1 := HB3.out.at_ 1
    have b2 := HB3.out.at_ 2
    have b3 := HB3.out.at_ 3
    have b4 := HB3.out.at_ 4
    have b5 := HB3.out.at_ 5
    have b6 := HB3.out.at_ 6
    have b7 := HB3.out.at_ 7
    simp at b0 b1 b2 b3 b4 b5 b6 b7
    by_cases ha : 1 ≤ a
    ·by_cases hb : 1 ≤ b
     ·have HR2 : Hid (r = (a != b)) := by
       unfold Hid; rw [Bool.eq_iff_iff, HR.out]; simp [ha, hb]
      go_wp2_with fail
      go_ret
      exact ⟨by rw [HR2.out]; rfl, K3.out⟩
     ·have hF : Hid (r = false) := Bool.eq_false_iff.2 fun e => hb (HR.out.1 e).1.2
      go_wp2_with fail
      go_ret
      exact ⟨by rw [hF.out]; rfl, eg ▸ K3.out⟩
    ·have hF : Hid (r = false) := Bool.eq_false_iff.2 fun e => ha (HR.out.1 e).1.1.2
     go_wp2_with fail
     go_ret
     exact ⟨by rw [hF.out]; rfl, eg ▸ K3.out⟩
def cmpG (a b : Int) : Int := if a < b then -1 else if b < a then 1 else 0
theorem cmpG_neg (a b : Int) : cmpG a b < 0 ↔ a < b := by unfold cmpG; (repeat' split) <;> omega
theorem cmpG_pos (a b : Int) : 0 < cmpG a b ↔ b < a := by unfold cmpG; (repeat' split) <;> omega
theorem cmpG_zero (a b : Int) : cmpG a b = 0 ↔ a = b := by unfold cmpG; (repeat' split) <;> omega
theorem nanW_c (a : Int) (w : World) : Calls Tryz.prog 137 #[.int .i64 a] w fun e w' => e = .returned (.bool false) ∧ w' = w := by
 go_enter Tryz.func137, Tryz.ntmps137
 go_wp2_with fail
 go_ret
 exact ⟨by simp, rfl⟩
theorem cmpW_c (a b : Int) (w : World) : Calls Tryz.prog 114 #[.int .i64 a, .int .i64 b] w fun e w' => e = .returned (.int .i64 (cmpG a b)) ∧ w' = w := by
 by_cases h1 : a < b
 ·have HC : Hid (cmpG a b = -1) := by unfold Hid cmpG; rw [if_pos h1]
  go_enter Tryz.func114, Tryz.ntmps114
  go_wp2_with (go_at_call 137; refine (nanW_c _ _).mono ?_; rintro e w' ⟨rfl, rfl⟩)
  go_ret
  exact ⟨by rw [HC.out]; rfl, rfl⟩
 ·by_cases h2 : b < a
  ·have HC : Hid (cmpG a b = 1) := by unfold Hid cmpG; rw [if_neg h1, if_pos h2]
   go_enter Tryz.func114, Tryz.ntmps114
   go_wp2_with (go_at_call 137; refine (nanW_c _ _).mono ?_; rintro e w' ⟨rfl, rfl⟩)
   go_ret
   exact ⟨by rw [HC.out]; rfl, rfl⟩
  ·have HC : Hid (cmpG a b = 0) := by unfold Hid cmpG; rw [if_neg h1, if_neg h2]
   go_enter Tryz.func114, Tryz.ntmps114
   go_wp2_with (go_at_call 137; refine (nanW_c _ _).mono ?_; rintro e w' ⟨rfl, rfl⟩)
   go_ret
   exact ⟨by rw [HC.out]; rfl, rfl⟩
end Go.Proofs.YtgdcphmmehedoaaGreat.Fx
/- sort.Find. -/
namespace Go.Proofs.YtgdcphmmehedoaaGreat.Fx
open Go.ChangeShapes Go.WideShapes Go.ChangeAt Go.RowKit
set_option linter.unusedVariables false
theorem sfind_c (g : Nat) (lb : Array Value) (eg : ∀ args w, (callFunc g args).run Tryz.prog w = .ok (.enter g args) w) (f : Nat → Int) {n : Nat} {w : World} (hn : n ≤ 1073741824)
  (hm : ∀ i j, i ≤ j → j < n → f i ≤ 0 → f j ≤ 0)
  (hS : ∀ i u, i < n → Made w.heap.size w u → Calls Tryz.prog g (#[.int .i64 (i : Nat)] ++ lb) u fun e v => e = .returned (.int .i64 (f i)) ∧ Made u.heap.size u v) :
  Calls Tryz.prog 135 #[.int .i64 (n : Nat), .func (.func g) #[] lb] w fun e v => ∃ (i : Nat) (r : Bool), i ≤ n ∧ e = .returned (.tuple #[.int .i64 (i : Nat), .bool r]) ∧ Made w.heap.size w v ∧ (∀ k, k < i → 0 < f k) ∧ (∀ k, i ≤ k → k < n → f k ≤ 0) ∧ (r = true ↔ i < n ∧ f i = 0) := by
 have HM := hid hm
 have HS := hid hS
 clear hm hS
 go_enter Tryz.func135, Tryz.ntmps135
 go_wp2_with fail
 go_loopg [4, 6, 7] n (fun gg s4 s6 s7 wx => ∃ i j : Nat, i ≤ j ∧ j ≤ n ∧ j - i ≤ gg ∧ s4 = .int .i64 (i : Nat) ∧ s6 = .int .i64 (j : Nat) ∧ Hid (Made w.heap.size w wx ∧ (∀ k, k < i → 0 < f k) ∧ (∀ k, j ≤ k → k < n → f k ≤ 0)))
 case atStart => exact ⟨0, n, Nat.zero_le _, Nat.le_refl _, by omega, rfl, rfl, Made.rfl_ _ _, fun k hk => absurd hk (Nat.not_lt_zero _), fun k h1 h2 => absurd h1 (by omega)⟩
 case round =>
  obtain ⟨i, j, hij, hjn, hgg, rfl, rfl, HB⟩ := hrel
  by_cases hlt : i < j
  ·obtain ⟨h, eh⟩ : ∃ h : Nat, (i + j) / 2 = h := ⟨_, rfl⟩
   have h1 : i ≤ h := by omega
   have h2 : h < j := by omega
   have eh' : ((i : Int) + (j : Int)) / 2 = (h : Int) := by omega
   have hcall := HS.out h wr (by omega) HB.out.1
   obtain ⟨z, ez⟩ : ∃ z, f h = z := ⟨_, rfl⟩
   rw [ez] at hcall
   have EZ := hid ez
   clear ez eh
   by_cases hz : 0 < z
   ·go_wp2_with (go_at_fn g; refine hcall.mono ?_; rintro e w' ⟨rfl, k1⟩)
    go_roundg (j - (h + 1))
    case measure => omega
    case rel =>
     refine ⟨h + 1, j, by omega, hjn, Nat.le_refl _, by go_num, rfl, HB.out.1.then_ (k1.low HB.out.1.1.size), fun k hk => ?_, HB.out.2.2⟩
     by_cases hp : 0 < f k
     ·exact hp
     ·have := HM.out k h (by omega) (by omega) (by omega)
      have := EZ.out
      omega
   ·go_wp2_with (go_at_fn g; refine hcall.mono ?_; rintro e w' ⟨rfl, k1⟩)
    go_roundg (h - i)
    case measure => omega
    case rel =>
     refine ⟨i, h, h1, by omega, Nat.le_refl _, rfl, rfl, HB.out.1.then_ (k1.low HB.out.1.1.size), HB.out.2.1, fun k h3 h4 => ?_⟩
     exact HM.out h k h3 h4 (by have := EZ.out; omega)
  ·have e : i = j := by omega
   subst e
   by_cases hin : i < n
   ·have hcall := HS.out i wr hin HB.out.1
    obtain ⟨z, ez⟩ : ∃ z, f i = z := ⟨_, rfl⟩
    rw [ez] at hcall
    have EZ := hid ez
    clear ez
    by_cases hz : z = 0
    ·have q : (z == 0) = true := by simpa using hz
     have HZ := hid hz
     clear hz
     go_wp2_with (go_at_fn g; refine hcall.mono ?_; rintro e w' ⟨rfl, k1⟩)
     refine bodyPost_ret (v := .tuple #[.int .i64 (i : Nat), .bool true]) (by simp [results, Tryz.results135, go_sem]) rfl ⟨i, true, hjn, rfl, HB.out.1.then_ (k1.low HB.out.1.1.size), HB.out.2.1, HB.out.2.2, ⟨fun _ => ⟨hin, EZ.out.trans HZ.out⟩, fun _ => rfl⟩⟩
    ·have q : (z == 0) = false := by simpa using hz
     have HZ := hid hz
     clear hz
     go_wp2_with (go_at_fn g; refine hcall.mono ?_; rintro e w' ⟨rfl, k1⟩)
     refine bodyPost_ret (v := .tuple #[.int .i64 (i : Nat), .bool false]) (by simp [results, Tryz.results135, go_sem]) rfl ⟨i, false, hjn, rfl, HB.out.1.then_ (k1.low HB.out.1.1.size), HB.out.2.1, HB.out.2.2, ⟨fun e => (by cases e), fun e => absurd (EZ.out.symm.trans e.2) HZ.out⟩⟩
   ·go_wp2_with fail
    refine bodyPost_ret (v := .tuple #[.int .i64 (i : Nat), .bool false]) (by simp [results, Tryz.results135, go_sem]) rfl ⟨i, false, hjn, rfl, HB.out.1, HB.out.2.1, HB.out.2.2, ⟨fun e => (by cases e), fun e => absurd e.1 hin⟩⟩
end Go.Proofs.YtgdcphmmehedoaaGreat.Fx