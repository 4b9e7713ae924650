/- SoI Mkb SoJ SoK -/
import Derived.Test.YtjhcejmfiekjgaaGreatSt6
import Derived.Test.YtjhcejmfiekjgaaGreatSt15
import Derived.Test.YtjhcejmfiekjgaaGreatSt16
import Derived.Test.YtjhcejmfiekjgaaGreatSt18
set_option maxRecDepth 100000
set_option maxHeartbeats 64000000
/- Package solve: what two bodies give along a way. -/
namespace Go.Proofs.YtjhcejmfiekjgaaGreat.Fx
open Go.ChangeShapes Go.WideShapes Go.ChangeAt Go.RowKit
set_option linter.unusedVariables false
theorem rg_move (b : Bd) : Rg (moveB b) := by
 unfold moveB
 split
 ·unfold Rg; omega
 ·exact rg_div _ _
theorem sum4_is (g cap : Nat) (u v y z : Int) (w : World) (hu : Rg u) (iv : I64 v) (iy : I64 y) (iz : I64 z) (c0 : w.cell? ⟨g, 0, none⟩ = some (.int .i64 u)) (c1 : w.cell? ⟨g, 1, none⟩ = some (.int .i64 v)) (c2 : w.cell? ⟨g, 2, none⟩ = some (.int .i64 y)) (c3 : w.cell? ⟨g, 3, none⟩ = some (.int .i64 z)) (d : Int) (hd : addF (addF (addF u v) y) z = d) :
  Calls Tryz.prog 103 #[.slice (some ⟨g, 0, none⟩) 4 cap] w fun e w' => e = .returned (.int .i64 d) ∧ w = w' := by
 have hc : Hid (∀ j, j < [u, v, y, z].length → w.cell? ⟨g, 0 + j, none⟩ = some (.int .i64 ([u, v, y, z].getD j 0))) := by
  intro j hj
  rcases (show j = 0 ∨ j = 1 ∨ j = 2 ∨ j = 3 by simp at hj; omega) with rfl | rfl | rfl | rfl
  ·exact c0
  ·exact c1
  ·exact c2
  ·exact c3
 have := sum_c g 0 4 cap [u, v, y, z] w (by simp) (by omega) (by
  intro n hn
  simp at hn
  rcases hn with rfl | rfl | rfl | rfl
  ·exact rgI hu
  ·exact iv
  ·exact iy
  ·exact iz) hc
 have e : sumL [u, v, y, z] = d := by
  show addF (addF (addF (addF 0 u) v) y) z = d
  rw [sum_zero hu, hd]
 rw [show List.take 4 [u, v, y, z] = [u, v, y, z] from rfl, e] at this
 exact this
theorem effective_c (a b : Bd) (pa pb : Value) (rax ray rbx rby nx ny r : Int) (w : World) (h1 : I64 rax) (h2 : I64 ray) (h3 : I64 rbx) (h4 : I64 rby) (h5 : I64 nx) (h6 : I64 ny)
  (er : giveS a b (rax, ray) (rbx, rby) (nx, ny) = r) :
  Calls Tryz.prog 61 #[lnkV pa pb (mA a) (mI a) (moveB a) (spinB a) (mA b) (mI b) (moveB b) (spinB b) rax ray rbx rby, vecV nx ny] w fun e w' => e = .returned (.int .i64 r) ∧ Made w.heap.size w w' := by
 have rA2 := rg_move a
 have iB2 := move_I b
 have iA3 := spin_I a
 have iB3 := spin_I b
 unfold giveS crossV at er
 simp only at er
 obtain ⟨A0, e0⟩ : ∃ x, mA a = x := ⟨_, rfl⟩
 obtain ⟨A1, e1⟩ : ∃ x, mI a = x := ⟨_, rfl⟩
 obtain ⟨A2, e2⟩ : ∃ x, moveB a = x := ⟨_, rfl⟩
 obtain ⟨A3, e3⟩ : ∃ x, spinB a = x := ⟨_, rfl⟩
 obtain ⟨B0, f0⟩ : ∃ x, mA b = x := ⟨_, rfl⟩
 obtain ⟨B1, f1⟩ : ∃ x, mI b = x := ⟨_, rfl⟩
 obtain ⟨B2, f2⟩ : ∃ x, moveB b = x := ⟨_, rfl⟩
 obtain ⟨B3, f3⟩ : ∃ x, spinB b = x := ⟨_, rfl⟩
 rw [e0, e1, e2, e3, f0, f1, f2, f3]
 rw [e2, e3, f2, f3] at er
 rw [e2] at rA2; rw [e3] at iA3; rw [f2] at iB2; rw [f3] at iB3
 clear e0 e1 e2 e3 f0 f1 f2 f3
 obtain ⟨ya, ey⟩ : ∃ y, mulF A3 (mulF (subF (mulF rax ny) (mulF ray nx)) (subF (mulF rax ny) (mulF ray nx))) = y := ⟨_, rfl⟩
 obtain ⟨yb, ez⟩ : ∃ y, mulF B3 (mulF (subF (mulF rbx ny) (mulF rby nx)) (subF (mulF rbx ny) (mulF rby nx))) = y := ⟨_, rfl⟩
 have iya : I64 ya := by rw [← ey]; exact i64_mul _ _
 have iyb : I64 yb := by rw [← ez]; exact i64_mul _ _
 rw [ey, ez] at er
 obtain ⟨G, eG⟩ : ∃ y, addF (addF (addF A2 B2) ya) yb = y := ⟨_, rfl⟩
 rw [eG] at er
 have iG : I64 G := by rw [← eG]; exact i64_add _ _
 have EY := hid ey; have EZ := hid ez; have EG := hid eG
 clear ey ez eG
 go_enter Tryz.func61, Tryz.ntmps61
 go_upto_region 1 with fail
 refine reg_made_tail 18 (by kernel_rfl) (by kernel_rfl) ?_
 intro T hT f hf
 have y2 := Class.reads hf (p := ⟨w.heap.size, 2, none⟩) (u := .int .i64 A0) (by go_simp)
 have y3 := Class.reads hf (p := ⟨w.heap.size, 3, none⟩) (u := .int .i64 A1) (by go_simp)
 have y4 := Class.reads hf (p := ⟨w.heap.size, 4, none⟩) (u := .int .i64 A2) (by go_simp)
 have y5 := Class.reads hf (p := ⟨w.heap.size, 5, none⟩) (u := .int .i64 A3) (by go_simp)
 have y6 := Class.reads hf (p := ⟨w.heap.size, 6, none⟩) (u := .int .i64 B0) (by go_simp)
 have y7 := Class.reads hf (p := ⟨w.heap.size, 7, none⟩) (u := .int .i64 B1) (by go_simp)
 have y8 := Class.reads hf (p := ⟨w.heap.size, 8, none⟩) (u := .int .i64 B2) (by go_simp)
 have y9 := Class.reads hf (p := ⟨w.heap.size, 9, none⟩) (u := .int .i64 B3) (by go_simp)
 have y10 := Class.reads hf (p := ⟨w.heap.size, 10, none⟩) (u := .int .i64 rax) (by go_simp)
 have y11 := Class.reads hf (p := ⟨w.heap.size, 11, none⟩) (u := .int .i64 ray) (by go_simp)
 have y12 := Class.reads hf (p := ⟨w.heap.size, 12, none⟩) (u := .int .i64 rbx) (by go_simp)
 have y13 := Class.reads hf (p := ⟨w.heap.size, 13, none⟩) (u := .int .i64 rby) (by go_simp)
 have n0 := Class.reads hf (p := ⟨w.heap.size + 1, 0, none⟩) (u := .int .i64 nx) (by go_simp)
 have n1 := Class.reads hf (p := ⟨w.heap.size + 1, 1, none⟩) (u := .int .i64 ny) (by go_simp)
 simp only [List.take_succ_cons, List.take_zero, List.drop_succ_cons, List.drop_zero]
 repeat (go_big_quiet_step ((first
  | (go_at_call 104; with_reducible exact hf.made (yields_c A0 A1 A2 A3 rax ray nx ny ya _ iA3 h1 h2 h5 h6 EY.out))
  | (go_at_call 104; with_reducible exact hf.made (yields_c B0 B1 B2 B3 rbx rby nx ny yb _ iB3 h3 h4 h5 h6 EZ.out)))))
 refine wpQuiet_nil ?_
 intro w3 h3'
 have hb := hf.here h3'
 have KM := hid (made_box (made_box hb))
 clear hb hf h3' y2 y3 y4 y5 y6 y7 y8 y9 y10 y11 y12 y13 n0 n1
 go_wp2_with fail
 obtain ⟨W, eW⟩ : ∃ W, W = w3.alloc (.cells #[.int .i64 A2, .int .i64 B2, .int .i64 ya, .int .i64 yb] 24) := ⟨_, rfl⟩
 have hN : Has W w3.heap.size 24 #[.int .i64 A2, .int .i64 B2, .int .i64 ya, .int .i64 yb] := by rw [eW]; exact has_new _ _ _
 have MW : Hid (Made w.heap.size w W) := by unfold Hid; rw [eW]; exact KM.out.cells KM.out.1.size _ _
 rw [← eW]
 clear eW
 refine (sum4_is w3.heap.size 4 A2 B2 ya yb W rA2 iB2 iya iyb (by simpa using hN.at_ 0) (by simpa using hN.at_ 1) (by simpa using hN.at_ 2) (by simpa using hN.at_ 3) G EG.out).mono ?_
 rintro e w4 ⟨rfl, rfl⟩
 by_cases hG : 0 < G
 ·rw [if_pos hG] at er
  have hd : decide (G ≤ 0) = false := decide_eq_false (by omega)
  have ER := hid er
  clear er hN
  go_wp2_with fail
  refine (div_is 4294967296 G r _ (by unfold I64; omega) iG ER.out).mono ?_
  rintro e w5 ⟨rfl, n, rfl⟩
  go_wp2_with fail
  go_ret
  exact ⟨rfl, MW.out.draws n⟩
 ·rw [if_neg hG] at er
  have hd : decide (G ≤ 0) = true := decide_eq_true (by omega)
  subst er
  clear hN
  go_wp2_with fail
  go_ret
  exact ⟨rfl, MW.out⟩
end Go.Proofs.YtjhcejmfiekjgaaGreat.Fx
/- Regions that draw their order: quiet operations and makings in any order that the text gives, later ones on the answers of earlier ones, and pure ones that come up late; then the others, in one order alone. -/
namespace Go.Proofs.YtjhcejmfiekjgaaGreat.Fx.MB
open Go.ChangeShapes Go.WideShapes Go.ChangeAt Go.RowKit
set_option linter.unusedVariables false
def waitB (md : Region.Mode) (ops : Array Oper) (k : Nat) (ps : List Nat) : Bool := (List.range k).all fun i => ps.contains i || Region.waitsFor md ops k i || ((List.range k).any fun j => Region.waitsFor md ops k j && Region.waitsFor md ops j i) || (down md ops 24 ((List.range k).filter fun j => Region.waitsFor md ops k j)).contains i
section
variable {P : Program} {ops : Array Oper} {md : Region.Mode}
theorem ready_last {k i : Nat} {ps : List Nat} {got : Array Bool} (hw : waitB md ops k ps = true) (inv : HeadInv md ops k got) (hj : k ∈ Region.ready md ops got) (hi : i < k) (hun : got.getD i true = false) : i ∈ ps := by
 have h1 := List.all_eq_true.1 hw i (List.mem_range.2 hi)
 simp only [Bool.or_eq_true, List.contains_iff_mem] at h1
 obtain ⟨_, ot, hot, hall⟩ := mem_ready.1 hj
 have direct : ∀ j, Region.waitsFor md ops k j = true → got.getD j false = true := fun j h => by
  obtain ⟨o', ho', e, he, hb, hon⟩ := Region.waitsFor_spec h
  have e1 : o' = ot := Option.some.inj (ho'.symm.trans hot)
  subst e1
  rw [← hon]
  exact hall e he hb
 have no : got.getD i false = true → False := fun h => by rw [getD_both hun] at h; cases h
 rcases h1 with ((h1 | h1) | h1) | h1
 ·exact h1
 ·exact (no (direct i h1)).elim
 ·obtain ⟨j, _, h2⟩ := List.any_eq_true.1 h1
  simp only [Bool.and_eq_true] at h2
  obtain ⟨o', ho', e, he, hb, hon⟩ := Region.waitsFor_spec h2.2
  refine (no ?_).elim
  rw [← hon]
  exact inv.closed j o' ho' (direct j h2.1) e he hb
 ·exact (no (down_got inv 24 _ (fun j hj => direct j (List.mem_filter.1 hj).2) i (h1))).elim
end
structure Ex where
 hi : Nat
 v : Value
instance : OfNat Ex 0 := ⟨⟨0, .bool false⟩⟩
def upd (G : Nat → Option (Nat × Ex)) (i : Nat) (t : Nat × Ex) : Nat → Option (Nat × Ex) := fun x => if x = i then some t else G x
theorem upd_comm (G : Nat → Option (Nat × Ex)) {i j : Nat} (h : i ≠ j) (g k : Nat × Ex) : upd (upd G i g) j k = upd (upd G j k) i g := by
 funext x; unfold upd
 by_cases h1 : x = i
 ·have h2 : ¬ x = j := fun e => h (h1.symm.trans e)
  simp [h1, h]
 ·simp [h1]
def Cm (w : World) (al : Nat → World → Nat → Ex → Prop) (G : Nat → Option (Nat × Ex)) (v : World) : Prop :=
 Below w.heap.size w v ∧ (∀ i t, G i = some t → w.heap.size ≤ t.1 ∧ t.1 ≤ t.2.hi ∧ t.2.hi ≤ v.heap.size ∧ al i v t.1 t.2) ∧ (∀ i j t u, G i = some t → G j = some u → i ≠ j → t.2.hi ≤ u.1 ∨ u.2.hi ≤ t.1)
def Lasts (al : Nat → World → Nat → Ex → Prop) : Prop := ∀ i u v g e, al i u g e → e.hi ≤ u.heap.size → Below u.heap.size u v → al i v g e
theorem Cm.step {w : World} {al : Nat → World → Nat → Ex → Prop} {G : Nat → Option (Nat × Ex)} (hst : Lasts al) {u v : World} (h : Cm w al G u) (k : Below u.heap.size u v) : Cm w al G v :=
 ⟨h.1.trans (k.mono h.1.size), fun i t e => by
  obtain ⟨h1, h2, h3, h4⟩ := h.2.1 i t e
  exact ⟨h1, h2, Nat.le_trans h3 k.size, hst i u v t.1 t.2 h4 h3 k⟩, h.2.2⟩
theorem Cm.next {w : World} {al : Nat → World → Nat → Ex → Prop} {G : Nat → Option (Nat × Ex)} (hst : Lasts al) {u v : World} (h : Cm w al G u) (k : Below u.heap.size u v) {i g : Nat} {e : Ex} (h1 : u.heap.size ≤ g) (h12 : g ≤ e.hi) (h2 : e.hi ≤ v.heap.size) (h3 : al i v g e) : Cm w al (upd G i (g, e)) v := by
 have h' := h.step hst k
 refine ⟨h'.1, fun j t et => ?_, fun j m t x ej em ne => ?_⟩
 ·unfold upd at et
  split at et
  ·rename_i hj
   subst hj
   cases et
   exact ⟨Nat.le_trans h.1.size h1, h12, h2, h3⟩
  ·exact h'.2.1 j t et
 ·unfold upd at ej em
  split at ej <;> split at em
  ·rename_i a b; exact absurd (a.trans b.symm) ne
  ·cases ej
   have := (h.2.1 m _ em).2.2.1
   exact .inr (Nat.le_trans this h1)
  ·cases em
   have := (h.2.1 j _ ej).2.2.1
   exact .inl (Nat.le_trans this h1)
  ·exact h.2.2 j m t x ej em ne
def MkUpon (P : Program) (w : World) (al : Nat → World → Nat → Ex → Prop) (val : Nat → Nat → Ex → Value) (i : Nat) (G : Nat → Option (Nat × Ex)) : Result Next → Prop
 | .ok (.value x) u' => ∃ g e, x = val i g e ∧ Cm w al (upd G i (g, e)) u'
 | .ok (.enter f args) u' => Calls P f args u' fun z u'' => ∃ g e, z = .returned (val i g e) ∧ Cm w al (upd G i (g, e)) u''
 | _ => False
def agree (ds : List Nat) (G G' : Nat → Option (Nat × Ex)) : Prop := ∀ m, m ∈ ds → G' m = G m
theorem agree.rfl_ (ds : List Nat) (G : Nat → Option (Nat × Ex)) : agree ds G G := fun _ _ => rfl
theorem agree_up {ds : List Nat} {G G' : Nat → Option (Nat × Ex)} {i : Nat} {g : Nat × Ex} (h : agree ds G G') (hi : i ∉ ds) : agree ds (upd G i g) G' := fun m hm => by
 have hne : m ≠ i := fun e => hi (e ▸ hm)
 rw [h m hm]; unfold upd; rw [if_neg hne]
theorem agree_un {ds : List Nat} {G G' : Nat → Option (Nat × Ex)} {i : Nat} {g : Nat × Ex} (h : agree ds (upd G i g) G') (hi : i ∉ ds) : agree ds G G' := fun m hm => by
 have hne : m ≠ i := fun e => hi (e ▸ hm)
 rw [h m hm]; unfold upd; rw [if_neg hne]
section
variable {P : Program} {ops : Array Oper} {md : Region.Mode} {w : World} {al : Nat → World → Nat → Ex → Prop} {val : Nat → Nat → Ex → Value} {k : Nat} {qs ms ps : List Nat} {dp : Nat → List Nat}
def YD (P : Program) (ops : Array Oper) (w : World) (al : Nat → World → Nat → Ex → Prop) (ds : List Nat) (G : Nat → Option (Nat × Ex)) (o : Oper) (v : Value) (a : Act) : Prop :=
 ∀ G', agree ds G G' → (∃ u, Cm w al G' u) → YieldsIn P ops (Cm w al G') o v a
theorem YD.put {ds : List Nat} {G : Nat → Option (Nat × Ex)} {oi oj : Oper} {v u : Value} {a : Act} (hy : YD P ops w al ds G oi v a) (hsi : ∀ cs b, oi.op ≠ .select cs b) (h : ∀ d, oj.dst = some d → d ∉ oi.looksAt ops) : YD P ops w al ds G oi v (a.put oj.dst u) :=
 fun G' ha hG => (hy G' ha hG).of_same (execOp_put oi hsi a oj.dst u h) (wanted_put oi a oj.dst u h)
theorem YD.unput {ds : List Nat} {G : Nat → Option (Nat × Ex)} {oi oj : Oper} {v u : Value} {a : Act} (hy : YD P ops w al ds G oi v (a.put oj.dst u)) (hsi : ∀ cs b, oi.op ≠ .select cs b) (h : ∀ d, oj.dst = some d → d ∉ oi.looksAt ops) : YD P ops w al ds G oi v a :=
 fun G' ha hG => (hy G' ha hG).of_same (execOp_put oi hsi a oj.dst u h).symm (wanted_put oi a oj.dst u h).symm
theorem YD.more {ds : List Nat} {G : Nat → Option (Nat × Ex)} {i : Nat} {g : Nat × Ex} {o : Oper} {v : Value} {a : Act} (hy : YD P ops w al ds G o v a) (hi : i ∉ ds) : YD P ops w al ds (upd G i g) o v a := fun G' ha hG => hy G' (agree_un ha hi) hG
theorem YD.less {ds : List Nat} {G : Nat → Option (Nat × Ex)} {i : Nat} {g : Nat × Ex} {o : Oper} {v : Value} {a : Act} (hy : YD P ops w al ds (upd G i g) o v a) (hi : i ∉ ds) : YD P ops w al ds G o v a := fun G' ha hG => hy G' (agree_up ha hi) hG
structure MkD (P : Program) (ops : Array Oper) (w : World) (al : Nat → World → Nat → Ex → Prop) (val : Nat → Nat → Ex → Value) (ds : List Nat) (G : Nat → Option (Nat × Ex)) (i : Nat) (o : Oper) (d : Tmp) (a : Act) : Prop where
 dst : o.dst = some d
 guard : Region.wanted o (yielded ops a.tmps) = true
 runs : ∀ G' u, agree ds G G' → Cm w al G' u → MkUpon P w al val i G' ((execOp a.eval o).run P u)
theorem MkD.put {ds : List Nat} {G : Nat → Option (Nat × Ex)} {i : Nat} {oi oj : Oper} {d : Tmp} {u : Value} {a : Act} (h : MkD P ops w al val ds G i oi d a) (hsi : ∀ cs b, oi.op ≠ .select cs b) (hd : ∀ x, oj.dst = some x → x ∉ oi.looksAt ops) : MkD P ops w al val ds G i oi d (a.put oj.dst u) :=
 ⟨h.dst, (wanted_put oi a oj.dst u hd).trans h.guard, fun G' x ha hx => by rw [execOp_put (ops := ops) oi hsi a oj.dst u hd]; exact h.runs G' x ha hx⟩
theorem MkD.unput {ds : List Nat} {G : Nat → Option (Nat × Ex)} {i : Nat} {oi oj : Oper} {d : Tmp} {u : Value} {a : Act} (h : MkD P ops w al val ds G i oi d (a.put oj.dst u)) (hsi : ∀ cs b, oi.op ≠ .select cs b) (hd : ∀ x, oj.dst = some x → x ∉ oi.looksAt ops) : MkD P ops w al val ds G i oi d a :=
 ⟨h.dst, (wanted_put oi a oj.dst u hd).symm.trans h.guard, fun G' x ha hx => by rw [← execOp_put (ops := ops) oi hsi a oj.dst u hd]; exact h.runs G' x ha hx⟩
theorem MkD.more {ds : List Nat} {G : Nat → Option (Nat × Ex)} {i j : Nat} {g : Nat × Ex} {o : Oper} {d : Tmp} {a : Act} (h : MkD P ops w al val ds G j o d a) (hi : i ∉ ds) : MkD P ops w al val ds (upd G i g) j o d a := ⟨h.dst, h.guard, fun G' x ha hx => h.runs G' x (agree_un ha hi) hx⟩
theorem MkD.less {ds : List Nat} {G : Nat → Option (Nat × Ex)} {i j : Nat} {g : Nat × Ex} {o : Oper} {d : Tmp} {a : Act} (h : MkD P ops w al val ds (upd G i g) j o d a) (hi : i ∉ ds) : MkD P ops w al val ds G j o d a := ⟨h.dst, h.guard, fun G' x ha hx => h.runs G' x (agree_up ha hi) hx⟩
def depB (md : Region.Mode) (ops : Array Oper) (j i : Nat) : Bool := Region.waitsFor md ops j i || (down md ops 24 ((List.range ops.size).filter fun x => Region.waitsFor md ops j x)).contains i
theorem dep_done {i j : Nat} {got : Array Bool} (inv : HeadInv md ops k got) (hj : j ∈ Region.ready md ops got) (hd : depB md ops j i = true) : got.getD i false = true := by
 obtain ⟨_, ot, hot, hall⟩ := mem_ready.1 hj
 have direct : ∀ x, Region.waitsFor md ops j x = true → got.getD x false = true := fun x h => by
  obtain ⟨o', ho', e, he, hb, hon⟩ := Region.waitsFor_spec h
  have e1 : o' = ot := Option.some.inj (ho'.symm.trans hot)
  subst e1
  rw [← hon]
  exact hall e he hb
 unfold depB at hd
 simp only [Bool.or_eq_true, List.contains_iff_mem] at hd
 rcases hd with h | h
 ·exact direct i h
 ·exact down_got inv 24 _ (fun x hx => direct x (List.mem_filter.1 hx).2) i h
def GM (P : Program) (md : Region.Mode) (ops : Array Oper) (w : World) (al : Nat → World → Nat → Ex → Prop) (val : Nat → Nat → Ex → Value) (k : Nat) (qs ms : List Nat) (dp : Nat → List Nat) (g : Nat) (Q : Exit → Act → World → Prop) (L : (Nat → Option (Nat × Ex)) → Array Bool → Act → Prop) : Nat → (Nat → Option (Nat × Ex)) → Array Bool → Act → Prop
 | 0, G, got, a => L G got a
 | f + 1, G, got, a => Region.ready md ops got ≠ [] ∧ ∀ i ∈ Region.ready md ops got,
   (i ∈ qs ∧ i < k ∧ ∃ o v, ops[i]? = some o ∧ YD P ops w al (dp i) G o v a ∧ GM P md ops w al val k qs ms dp g Q L f G (got.setIfInBounds i true) (a.put o.dst v)) ∨
   (i ∈ ms ∧ i < k ∧ ∃ o d, ops[i]? = some o ∧ MkD P ops w al val (dp i) G i o d a ∧ ∀ b e, GM P md ops w al val k qs ms dp g Q L f (upd G i (b, e)) (got.setIfInBounds i true) (a.put (some d) (val i b e))) ∨
   (i = k ∧ ∀ u, Cm w al G u → wpOp P ops Q i (wpAny P md ops Q (f + g) (got.setIfInBounds i true)) a u)
theorem GM_any {g : Nat} {L : (Nat → Option (Nat × Ex)) → Array Bool → Act → Prop} {Q : Exit → Act → World → Prop}
  (hL : ∀ G got a u, Cm w al G u → L G got a → wpAny P md ops Q g got a u) :
  ∀ (f : Nat) (G : Nat → Option (Nat × Ex)) (got : Array Bool) (a : Act) (u : World), Cm w al G u → GM P md ops w al val k qs ms dp g Q L f G got a → wpAny P md ops Q (f + g) got a u
 | 0, G, got, a, u, hu, h => by rw [Nat.zero_add]; exact hL _ _ _ _ hu h
 | f + 1, G, got, a, u, hu, h => by
  rw [show f + 1 + g = (f + g) + 1 by omega]
  refine ⟨fun h0 => absurd h0 h.1, fun i hi => ?_⟩
  rcases h.2 i hi with ⟨_, _, o, v, ho, hy, hf⟩ | ⟨_, _, o, d, ho, ha, hf⟩ | ⟨_, hf⟩
  ·refine wpOp_of_qOp (C := Cm w al G) (K := fun a' => a' = a.put o.dst v) hu (fun a' u' hu' e => ?_) ((hy G (agree.rfl_ _ _) ⟨u, hu⟩).qOp ho rfl)
   rw [e]
   exact GM_any hL f _ _ _ _ hu' hf
  ·unfold wpOp
   simp only [ho]
   rw [if_pos ha.guard]
   left
   have hr := ha.runs G u (agree.rfl_ _ _) hu
   unfold Oper.wp
   generalize (execOp a.eval o).run P u = r at hr
   cases r with
   | halt x w' => exact hr.elim
   | ok x w' =>
    cases x with
    | value x =>
     obtain ⟨b, e, hx, hc⟩ := hr
     rw [Oper.upon_value, ha.dst, hx]
     exact GM_any hL f _ _ _ _ hc (hf b e)
    | enter fn args =>
     rw [Oper.upon_enter]
     refine Calls.mono hr fun z u'' ⟨b, e, hz, hc⟩ => ?_
     subst hz
     simp only []
     rw [ha.dst]
     exact GM_any hL f _ _ _ _ hc (hf b e)
    | _ => exact hr.elim
  ·exact hf u hu
theorem GM_first {i g : Nat} {Q : Exit → Act → World → Prop} {oi : Oper} {v : Value} {L : (Nat → Option (Nat × Ex)) → Array Bool → Act → Prop} (hL : ∀ G got a u, Cm w al G u → L G got a → wpAny P md ops Q g got a u) (hQ : NoFrame Q) (hpu : ∀ p ∈ ps, ∀ o, ops[p]? = some o → Pure P o) (hi : ops[i]? = some oi)
  (hsel : ∀ (j : Nat) (o : Oper) cs b, ops[j]? = some o → o.op ≠ .select cs b) (hs : waitB md ops k ps = true) (hc : Region.chainB md ops k = true) (hn : k < ops.size) (hiq : i ∈ qs) (hin : i < k) (hdp : ∀ j m, j < k → m ∈ dp j → depB md ops j m = true)
  (hdone : ∀ G got a, L G got a → ∀ j ∈ Region.ready md ops got, k ≤ j) :
  ∀ (f : Nat) (G : Nat → Option (Nat × Ex)) (got : Array Bool) (a : Act), HeadInv md ops k got →
   (∀ j oj, ops[j]? = some oj → j ≠ i → got.getD j true = false → (∀ e ∈ oj.after, Region.binds md e = true → e.on ≠ i) → oi.apart ops oj = true) →
   i ∈ Region.ready md ops got → YD P ops w al (dp i) G oi v a →
   GM P md ops w al val k qs ms dp g Q L f G (got.setIfInBounds i true) (a.put oi.dst v) → GM P md ops w al val k qs ms dp g Q L (f + 1) G got a
 | f, G, got, a, inv, hfree, hr, hy, H => by
  have hun := (mem_ready.1 hr).1
  refine ⟨fun h => (by rw [h] at hr; cases hr), fun j hj => ?_⟩
  have hle := ready_le hc inv hj
  by_cases hji : j = i
  ·subst hji; exact .inl ⟨hiq, hin, oi, v, hi, hy, H⟩
  ·have hrj := ready_mono hj hji
   obtain ⟨hjun, oj, hoj, hall⟩ := mem_ready.1 hj
   have hnot : ∀ e ∈ oj.after, Region.binds md e = true → e.on ≠ i := fun e he hb heq => by
    have h1 := hall e he hb
    rw [heq, getD_both hun] at h1
    cases h1
   have hap := hfree j oj hoj hji hjun hnot
   obtain ⟨p1, p2, p3⟩ := Oper.apart_spec hap
   have hfree' : ∀ m ok, ops[m]? = some ok → m ≠ i → (got.setIfInBounds j true).getD m true = false → (∀ e ∈ ok.after, Region.binds md e = true → e.on ≠ i) → oi.apart ops ok = true := fun m ok hk hki hun' hno => by
    refine hfree m ok hk hki ?_ hno
    by_cases hjk : j = m
    ·subst hjk; exact hjun
    ·rw [getD_set_ne true hjk] at hun'; exact hun'
   by_cases hjl : j = k
   ·have hip : i ∈ ps := ready_last hs inv (by rw [← hjl]; exact hj) hin hun
    refine .inr (.inr ⟨hjl, fun u hu => ?_⟩)
    have hy' : Yields P ops oi v a := by
     rcases hy G (agree.rfl_ _ _) ⟨u, hu⟩ with ⟨hw, hv⟩ | hw
     ·exact .inl ⟨hw, hpu i hip oi hi a _ u v (hv u hu)⟩
     ·exact .inr hw
    have hQ' := hQ
    have fin : ∀ N, wpOp P ops Q j (wpAny P md ops Q N ((got.setIfInBounds i true).setIfInBounds j true)) (a.put oi.dst v) u → wpOp P ops Q j (wpAny P md ops Q (N + 1) (got.setIfInBounds j true)) a u := fun N h => by
     refine wpOp_mono (fun a' w' h3 => wpAny_first hi hsel (fun c a w h => hQ' c _ _ w h) N (got.setIfInBounds j true) a' w' hfree' (ready_mono hr (Ne.symm hji)) h3.1 ?_) (wpOp_put hoj hap (fun cs b => hsel i oi cs b hi) (fun cs b => hsel j oj cs b hoj) (fun c a w h => hQ' c _ _ w h) hy' h)
     rw [Array.setIfInBounds_comm _ _ hji]
     exact h3.2
    match f, H with
    | 0, H =>
     have X := hL _ _ _ u hu H
     match g, X with
     | 0, X => rw [X.1] at hrj; cases hrj
     | g + 1, X => rw [Nat.zero_add]; exact fin g (X.2 j hrj)
    | f + 1, H =>
     rcases H.2 j hrj with ⟨_, h, _⟩ | ⟨_, h, _⟩ | ⟨_, h⟩
     ·omega
     ·omega
     ·rw [show f + 1 + g = f + g + 1 by omega]; exact fin _ (h u hu)
   have hjn : j < k := by omega
   have hji' : j ∉ dp i := fun hm => by
    have := dep_done inv hr (hdp i j hin hm)
    rw [getD_both hjun] at this; cases this
   match f, H with
   | 0, H => have := hdone _ _ _ H j hrj; omega
   | f + 1, H =>
    rcases H.2 j hrj with ⟨hjq, hjn', o, u, ho, hyj, hf⟩ | ⟨hjm, hjn', o, d, ho, ha, hf⟩ | ⟨h1, _⟩
    ·have e : o = oj := Option.some.inj (ho.symm.trans hoj)
     subst e
     refine .inl ⟨hjq, hjn', o, u, ho, hyj.unput (fun cs b => hsel j o cs b ho) p1, ?_⟩
     refine GM_first hL hQ hpu hi hsel hs hc hn hiq hin hdp hdone f G _ _ (inv.set hj hjn) hfree' (ready_mono hr (Ne.symm hji)) (hy.put (fun cs b => hsel i oi cs b hi) p3) ?_
     rw [Array.setIfInBounds_comm _ _ hji, ← Act.put_comm a v u p2]
     exact hf
    ·have e : o = oj := Option.some.inj (ho.symm.trans hoj)
     subst e
     refine .inr (.inl ⟨hjm, hjn', o, d, ho, ha.unput (fun cs b => hsel j o cs b ho) p1, fun b x => ?_⟩)
     have hyi : YD P ops w al (dp i) (upd G j (b, x)) oi v (a.put o.dst (val j b x)) := (hy.put (fun cs b => hsel i oi cs b hi) p3).more hji'
     have hg := hf b x
     rw [← ha.dst] at hg ⊢
     refine GM_first hL hQ hpu hi hsel hs hc hn hiq hin hdp hdone f _ _ _ (inv.set hj hjn) hfree' (ready_mono hr (Ne.symm hji)) hyi ?_
     rw [Array.setIfInBounds_comm _ _ hji, ← Act.put_comm a v _ p2]
     exact hg
    ·omega
theorem GM_firstM {i g : Nat} {Q : Exit → Act → World → Prop} {oi : Oper} {di : Tmp} {L : (Nat → Option (Nat × Ex)) → Array Bool → Act → Prop} (hi : ops[i]? = some oi) (hsel : ∀ (j : Nat) (o : Oper) cs b, ops[j]? = some o → o.op ≠ .select cs b)
  (hs : waitB md ops k ps = true) (hc : Region.chainB md ops k = true) (hn : k < ops.size) (him : i ∈ ms) (hin : i < k) (hips : i ∉ ps) (hdp : ∀ j m, j < k → m ∈ dp j → depB md ops j m = true)
  (hdone : ∀ G got a, L G got a → ∀ j ∈ Region.ready md ops got, k ≤ j) :
  ∀ (f : Nat) (G : Nat → Option (Nat × Ex)) (got : Array Bool) (a : Act), HeadInv md ops k got → (∀ j, j ∈ qs → got.getD j true = true ∨ depB md ops j i = true) →
   (∀ j oj, ops[j]? = some oj → j ≠ i → got.getD j true = false → (∀ e ∈ oj.after, Region.binds md e = true → e.on ≠ i) → oi.apart ops oj = true) →
   i ∈ Region.ready md ops got → MkD P ops w al val (dp i) G i oi di a →
   (∀ b e, GM P md ops w al val k qs ms dp g Q L f (upd G i (b, e)) (got.setIfInBounds i true) (a.put (some di) (val i b e))) → GM P md ops w al val k qs ms dp g Q L (f + 1) G got a
 | f, G, got, a, inv, hall0, hfree, hr, ha, H => by
  have hun := (mem_ready.1 hr).1
  refine ⟨fun h => (by rw [h] at hr; cases hr), fun j hj => ?_⟩
  have hjn : j < k := by
   refine Nat.lt_of_le_of_ne (ready_le hc inv hj) fun e => ?_
   exact hips (ready_last (i := i) hs inv (by rw [← e]; exact hj) hin hun)
  obtain ⟨hjun, oj, hoj, hall⟩ := mem_ready.1 hj
  have noq : j ∉ qs := fun hq => by
   rcases hall0 j hq with h | h
   ·rw [h] at hjun; cases hjun
   ·have := dep_done inv hj h
    rw [getD_both hun] at this; cases this
  by_cases hji : j = i
  ·subst hji; exact .inr (.inl ⟨him, hin, oi, di, hi, ha, H⟩)
  ·have hrj := ready_mono hj hji
   have hij' : i ∉ dp j := fun hm => by
    have := dep_done inv hj (hdp j i hjn hm)
    rw [getD_both hun] at this; cases this
   have hji' : j ∉ dp i := fun hm => by
    have := dep_done inv hr (hdp i j hin hm)
    rw [getD_both hjun] at this; cases this
   match f, H with
   | 0, H => have := hdone _ _ _ (H 0 0) j hrj; omega
   | f + 1, H =>
    have hnot : ∀ e ∈ oj.after, Region.binds md e = true → e.on ≠ i := fun e he hb heq => by
     have h1 := hall e he hb
     rw [heq, getD_both hun] at h1
     cases h1
    obtain ⟨p1, p2, p3⟩ := Oper.apart_spec (hfree j oj hoj hji hjun hnot)
    have hfree' : ∀ m ok, ops[m]? = some ok → m ≠ i → (got.setIfInBounds j true).getD m true = false → (∀ e ∈ ok.after, Region.binds md e = true → e.on ≠ i) → oi.apart ops ok = true := fun m ok hk hki hun' hno => by
     refine hfree m ok hk hki ?_ hno
     by_cases hjk : j = m
     ·subst hjk; exact hjun
     ·rw [getD_set_ne true hjk] at hun'; exact hun'
    have key : ∀ b e, ∃ d, j ∈ ms ∧ MkD P ops w al val (dp j) (upd G i (b, e)) j oj d (a.put (some di) (val i b e)) ∧ ∀ b' e', GM P md ops w al val k qs ms dp g Q L f (upd (upd G i (b, e)) j (b', e')) ((got.setIfInBounds i true).setIfInBounds j true) ((a.put (some di) (val i b e)).put (some d) (val j b' e')) := fun b e => by
     rcases (H b e).2 j hrj with ⟨hjq, _⟩ | ⟨h1, _, o, d, ho, had, hf⟩ | ⟨h1, _⟩
     ·exact absurd hjq noq
     ·have e : o = oj := Option.some.inj (ho.symm.trans hoj)
      subst e
      exact ⟨d, h1, had, hf⟩
     ·omega
    obtain ⟨d, hjm, had, _⟩ := key 0 0
    have had0 : MkD P ops w al val (dp j) G j oj d a := by
     have := had.less hij'
     rw [← ha.dst] at this
     exact this.unput (fun cs b => hsel j oj cs b hoj) p1
    refine .inr (.inl ⟨hjm, hjn, oj, d, hoj, had0, fun b' e' => ?_⟩)
    have ha' : MkD P ops w al val (dp i) (upd G j (b', e')) i oi di (a.put (some d) (val j b' e')) := by
     have := (ha.put (u := val j b' e') (fun cs b => hsel i oi cs b hi) p3).more (g := (b', e')) hji'
     rw [had0.dst] at this
     exact this
    refine GM_firstM hi hsel hs hc hn him hin hips hdp hdone f _ _ _ (inv.set hj hjn) (fun m hm => by
     rcases hall0 m hm with h | h
     ·exact .inl (set_listed h)
     ·exact .inr h) hfree' (ready_mono hr (Ne.symm hji)) ha' fun b e => ?_
    obtain ⟨d', _, had', hf⟩ := key b e
    have ed : d' = d := Option.some.inj (had'.dst.symm.trans had0.dst)
    subst ed
    rw [Array.setIfInBounds_comm _ _ hji, upd_comm G hji]
    have hp : ∀ x, some di = some x → some d' ≠ some x := fun x hx => by rw [← had0.dst]; exact p2 x (by rw [ha.dst]; exact hx)
    rw [← Act.put_comm a _ _ hp]
    exact hf b' e'
def ordB (md : Region.Mode) (ops : Array Oper) (g k : Nat) (qs ms : List Nat) : List Nat → Array Bool → Bool
 | [], got => Region.seqB md ops g k got
 | i :: l, got => (Region.ready md ops got).contains i && Region.free md ops got i && (qs.contains i || (ms.contains i && qs.all fun j => got.getD j true || depB md ops j i)) && ordB md ops g k qs ms l (got.setIfInBounds i true)
def Can (P : Program) (ops : Array Oper) (w : World) (al : Nat → World → Nat → Ex → Prop) (val : Nat → Nat → Ex → Value) (qs ms : List Nat) (dp : Nat → List Nat) (Lq : (Nat → Option (Nat × Ex)) → Act → Prop) : List Nat → (Nat → Option (Nat × Ex)) → Act → Prop
 | [], G, a => Lq G a
 | i :: l, G, a => (qs.contains i = true ∧ ∃ o v, ops[i]? = some o ∧ YD P ops w al (dp i) G o v a ∧ Can P ops w al val qs ms dp Lq l G (a.put o.dst v)) ∨
   (qs.contains i = false ∧ ∃ o d, ops[i]? = some o ∧ MkD P ops w al val (dp i) G i o d a ∧ ∀ b e, Can P ops w al val qs ms dp Lq l (upd G i (b, e)) (a.put (some d) (val i b e)))
theorem GM_lex {g : Nat} {Q : Exit → Act → World → Prop} {Lq : (Nat → Option (Nat × Ex)) → Act → Prop} (hL : ∀ G got a u, Cm w al G u → (Region.seqB md ops g k got = true ∧ Lq G a) → wpAny P md ops Q g got a u) (hQ : NoFrame Q) (hpu : ∀ p ∈ ps, ∀ o, ops[p]? = some o → Pure P o)
  (hsel : Region.noSelect ops = true) (hs : waitB md ops k ps = true) (hc : Region.chainB md ops k = true) (hn : k < ops.size) (hdp : ∀ j m, j < k → m ∈ dp j → depB md ops j m = true) (hmp : ∀ i, i ∈ ms → i ∉ ps) :
  ∀ (l : List Nat) (G : Nat → Option (Nat × Ex)) (got : Array Bool) (a : Act), (∀ i, i ∈ l → i < k) → HeadInv md ops k got → ordB md ops g k qs ms l got = true → Can P ops w al val qs ms dp Lq l G a →
  GM P md ops w al val k qs ms dp g Q (fun G' got' a' => Region.seqB md ops g k got' = true ∧ Lq G' a') l.length G got a
 | [], G, got, a, _, _, hB, h => ⟨hB, h⟩
 | i :: l, G, got, a, hl, inv, hB, h => by
  simp only [ordB, Bool.and_eq_true] at hB
  obtain ⟨⟨⟨hr, hf⟩, hq⟩, hB'⟩ := hB
  have hin := hl i (List.mem_cons_self ..)
  have hr' : i ∈ Region.ready md ops got := by simpa using hr
  rcases h with ⟨hiq, o, v, h0, hy, hK⟩ | ⟨hiq, o, d, h0, ha, hK⟩
  ·refine GM_first hL hQ hpu h0 (Region.noSelect_spec hsel) hs hc hn (by simpa using hiq) hin hdp (fun G' got' a' hL => seqB_ready hL.1) l.length G got a inv (Region.free_spec h0 hf) hr' hy ?_
   exact GM_lex hL hQ hpu hsel hs hc hn hdp hmp l G _ _ (fun j hj => hl j (List.mem_cons_of_mem _ hj)) (inv.set hr' hin) hB' hK
  ·rw [hiq] at hq
   simp only [Bool.false_or, Bool.and_eq_true, List.all_eq_true, Bool.or_eq_true] at hq
   have him : i ∈ ms := by simpa using hq.1
   refine GM_firstM h0 (Region.noSelect_spec hsel) hs hc hn him hin (hmp i him) hdp (fun G' got' a' hL => seqB_ready hL.1) l.length G got a inv hq.2 (Region.free_spec h0 hf) hr' ha fun b e => ?_
   exact GM_lex hL hQ hpu hsel hs hc hn hdp hmp l _ _ _ (fun j hj => hl j (List.mem_cons_of_mem _ hj)) (inv.set hr' hin) hB' (hK b e)
theorem can_quiet {A : Act} {N : Nat} {ds : List Nat} {Lq : (Nat → Option (Nat × Ex)) → Act → Prop} {rest : List Nat} {G : Nat → Option (Nat × Ex)} (hst : Lasts al) (hG0 : ∃ G', agree ds G G' ∧ ∃ u, Cm w al G' u) : ∀ (l : List Nat) (lo : List Oper) (a : Act), l.map (fun i => ops[i]?) = lo.map some → a.tmps.size = N → dstB N lo = true → (∀ i, i ∈ l → qs.contains i = true) → (∀ i, i ∈ l → ∀ m, m ∈ ds → m ∈ dp i) →
  (∀ G', agree ds G G' → (∃ u, Cm w al G' u) → wpQuiet P ops (Cm w al G') (fun a' => a' = A) lo a) → Can P ops w al val qs ms dp Lq rest G A → Can P ops w al val qs ms dp Lq (l ++ rest) G a
 | [], [], a, _, _, _, _, _, h, hA => by
  obtain ⟨G0, hag, hne⟩ := hG0
  have e : a = A := h G0 hag hne
  rw [e]; exact hA
 | [], _ :: _, a, hm, _, _, _, _, h, _ => by simp at hm
 | _ :: _, [], a, hm, _, _, _, _, h, _ => by simp at hm
 | i :: l, o :: lo, a, hm, hN, hD, hq, hds, h, hA => by
  simp only [List.map_cons, List.cons.injEq] at hm
  unfold dstB at hD
  simp only [Bool.and_eq_true] at hD
  obtain ⟨hd, hD'⟩ := hD
  cases ho : o.dst with
  | none => rw [ho] at hd; cases hd
  | some d =>
   rw [ho] at hd
   simp only [Bool.and_eq_true, decide_eq_true_eq, List.all_eq_true, bne_iff_ne] at hd
   obtain ⟨G0, hag, hne⟩ := id hG0
   obtain ⟨v, _, hv⟩ := quiet_cons (h _ hag hne)
   have slot : ∀ G', (∃ u, Cm w al G' u) → ∀ x, wpQuiet P ops (Cm w al G') (fun a' => a' = A) lo (a.put o.dst x) → A.tmps[d]? = some x := fun G' hG x hx => by
    rw [last_slot lo _ hx hd.2, ho]
    exact put_get a d x (by rw [hN]; exact hd.1)
   have all : ∀ G', agree ds G G' → (∃ u, Cm w al G' u) → YieldsIn P ops (Cm w al G') o v a ∧ wpQuiet P ops (Cm w al G') (fun a' => a' = A) lo (a.put o.dst v) := fun G' ha hG => by
    obtain ⟨x, hy, hx⟩ := quiet_cons (h G' ha hG)
    have e : x = v := Option.some.inj ((slot G' hG x hx).symm.trans (slot _ hne v hv))
    rw [e] at hy hx
    exact ⟨hy, hx⟩
   exact .inl ⟨hq i (List.mem_cons_self ..), o, v, hm.1, fun G' ha hG => (all G' (fun m hm' => ha m (hds i (List.mem_cons_self ..) m hm')) hG).1,
    can_quiet hst hG0 l lo _ hm.2 ((put_size ..).trans hN) hD' (fun j hj => hq j (List.mem_cons_of_mem _ hj)) (fun j hj => hds j (List.mem_cons_of_mem _ hj)) (fun G' ha hG => (all G' ha hG).2) hA⟩
def mkB (md : Region.Mode) (ops : Array Oper) (k : Nat) (cs qs ms ps : List Nat) (dp : Nat → List Nat) : Bool :=
 Region.noSelect ops && decide (k < ops.size) && waitB md ops k ps && Region.chainB md ops k && cs.all (fun i => decide (i < k)) && decide (cs.length = k) && (List.range k).all (fun j => (dp j).all fun m => depB md ops j m) && ms.all (fun i => !(ps.contains i)) && ordB md ops (ops.size - k) k qs ms cs (Array.replicate ops.size false)
end
section
variable {P : Program}
theorem reg_mk {id : Nat} {Q : Exit → Act → World → Prop} {a : Act} {w : World} {l : List Oper} {val : Nat → Nat → Ex → Value} (al : Nat → World → Nat → Ex → Prop) (k : Nat) (cs qs ms ps : List Nat) (dp : Nat → List Nat) (hm : P.follows .mixedOrders = true)
  (hB : mkB .any l.toArray k cs qs ms ps dp = true) (hpu : ∀ p ∈ ps, ∀ o, l.toArray[p]? = some o → Pure P o)
  (h : Can P l.toArray w al val qs ms dp (fun G a' => ∀ u, Cm w al G u → wpList P l.toArray (NoPanic Q) (l.drop k) a' u) cs (fun _ => none) a) : (Code.region id l.toArray true).wp P Q a w := by
 refine wp_region_noPanic ?_
 simp only [mkB, Bool.and_eq_true, decide_eq_true_eq, List.all_eq_true, Bool.not_eq_true'] at hB
 obtain ⟨⟨⟨⟨⟨⟨⟨⟨hsel, hn⟩, hs⟩, hc⟩, hlt⟩, hlen⟩, hdp⟩, hmp⟩, hlex⟩ := hB
 have hn' : k < l.length := by simpa using hn
 have hdl : (l.drop k).length = l.toArray.size - k := by simp
 have inv0 : HeadInv .any l.toArray k (Array.replicate l.toArray.size false) :=
  ⟨by simp, fun j oj _ hl => (by rw [getD_replicate_false] at hl; cases hl), fun t _ ht => getD_in (by simpa using ht) (getD_replicate_false _ _)⟩
 have hL : ∀ G got a' u, Cm w al G u → (Region.seqB .any l.toArray (l.toArray.size - k) k got = true ∧ ∀ u, Cm w al G u → wpList P l.toArray (NoPanic Q) (l.drop k) a' u) → wpAny P .any l.toArray (NoPanic Q) (l.toArray.size - k) got a' u := fun G got a' u hu hL => by
  have := wpAny_of_seq (md := .any) (Q' := NoPanic Q) (l.drop k) k got a' u (fun j => by simp [List.getElem?_drop]) (by rw [hdl]; exact hL.1) (hL.2 u hu)
  rwa [hdl] at this
 have H := GM_lex (md := .any) (g := l.toArray.size - k) (P := P) (w := w) (al := al) (val := val) (ps := ps) (Lq := fun G a' => ∀ u, Cm w al G u → wpList P l.toArray (NoPanic Q) (l.drop k) a' u) (qs := qs) (ms := ms) (dp := dp) (Q := NoPanic Q)
  hL (fun _ _ _ _ h => h) hpu hsel hs hc hn (fun j m hj hm => hdp j (List.mem_range.2 hj) m hm) (fun i hi hp => by have := hmp i hi; simp at this; exact this hp) cs (fun _ => none) _ a (fun i hi => hlt i hi) inv0 hlex h
 refine wp_region_any hm ?_
 have c0 : Cm w al (fun _ => none) { w with drawn := w.drawn + 1 } := ⟨below_draw w, fun i g e => (by cases e), fun i j t u e => (by cases e)⟩
 have := GM_any hL _ _ _ _ _ c0 H
 rw [hlen, show k + (l.toArray.size - k) = l.toArray.size by omega] at this
 exact this
theorem can_class {lo : List Oper} {w : World} {al : Nat → World → Nat → Ex → Prop} {val : Nat → Nat → Ex → Value} {qs ms : List Nat} {dp : Nat → List Nat} {Lq : (Nat → Option (Nat × Ex)) → Act → Prop} {rest : List Nat} {G : Nat → Option (Nat × Ex)} {a : Act} (l ds : List Nat) (N : Nat) (hst : Lasts al) (hG0 : ∃ G', agree ds G G' ∧ ∃ u, Cm w al G' u)
  (hq : l.map (fun i => lo.toArray[i]?) = (l.filterMap fun i => lo[i]?).map some) (hN : a.tmps.size = N) (hD : dstB N (l.filterMap fun i => lo[i]?) = true) (hqs : (l.all fun i => qs.contains i && ds.all fun m => (dp i).contains m) = true)
  (h : ∃ A : Act, (∀ (T : Type) (_ : Nonempty T) (f : T → World), ClassB w f → (∀ m, m ∈ ds → ∀ t, G m = some t → ∀ x, w.heap.size ≤ t.1 ∧ t.1 ≤ t.2.hi ∧ t.2.hi ≤ (f x).heap.size ∧ al m (f x) t.1 t.2) → wpQuiet P lo.toArray (fun w' => ∃ x, w' = f x) (fun a' => a' = A) (l.filterMap fun i => lo[i]?) a) ∧
   Can P lo.toArray w al val qs ms dp Lq rest G A) : Can P lo.toArray w al val qs ms dp Lq (l ++ rest) G a := by
 obtain ⟨A, h1, h2⟩ := h
 simp only [List.all_eq_true, Bool.and_eq_true] at hqs
 refine can_quiet (N := N) (ds := ds) hst hG0 l _ a hq hN hD (fun i hi => (hqs i hi).1) (fun i hi m hm => by have := (hqs i hi).2 m hm; simpa using this) (fun G' ha hG => ?_) h2
 obtain ⟨u, hu⟩ := hG
 have := h1 {v // Cm w al G' v} ⟨⟨u, hu⟩⟩ Subtype.val ⟨fun x => x.2.1, fun x v hv => ⟨⟨v, x.2.step hst hv⟩, rfl⟩⟩ (fun m hm g e x => x.2.2.1 m g (by rw [ha m hm]; exact e))
 have e : (fun w' => ∃ x : {v // Cm w al G' v}, w' = x.1) = Cm w al G' := by
  funext w'
  exact propext ⟨fun ⟨x, hx⟩ => hx ▸ x.2, fun h => ⟨⟨w', h⟩, rfl⟩⟩
 rw [e] at this
 exact this
theorem any_class {w : World} {al : Nat → World → Nat → Ex → Prop} (G : Nat → Option (Nat × Ex)) : ∃ G', agree [] G G' ∧ ∃ u, Cm w al G' u :=
 ⟨fun _ => none, fun m hm => (by cases hm), w, Below.refl _ _, fun i g e => (by cases e), fun i j t u e => (by cases e)⟩
theorem can_mk {ops : Array Oper} {w : World} {al : Nat → World → Nat → Ex → Prop} {val : Nat → Nat → Ex → Value} {qs ms : List Nat} {dp : Nat → List Nat} {Lq : (Nat → Option (Nat × Ex)) → Act → Prop} {rest : List Nat} {G : Nat → Option (Nat × Ex)} {a : Act} (i : Nat) (d : Tmp) (o : Oper) (hq : qs.contains i = false) (ho : ops[i]? = some o) (hd : o.dst = some d) (hg : Region.wanted o (yielded ops a.tmps) = true)
  (h1 : ∀ G' u, agree (dp i) G G' → Cm w al G' u → MkUpon P w al val i G' ((execOp a.eval o).run P u))
  (h2 : ∀ b e, Can P ops w al val qs ms dp Lq rest (upd G i (b, e)) (a.put (some d) (val i b e))) : Can P ops w al val qs ms dp Lq (i :: rest) G a :=
 .inr ⟨hq, o, d, ho, ⟨hd, hg, h1⟩, h2⟩
end
end Go.Proofs.YtjhcejmfiekjgaaGreat.Fx.MB
/- Package solve: bodies and their masses. -/
namespace Go.Proofs.YtjhcejmfiekjgaaGreat.Fx
open Go.ChangeShapes Go.WideShapes Go.ChangeAt Go.RowKit
set_option linter.unusedVariables false
theorem infoM : (Tryz.prog.info? 96).map (fun i => (i.zero, i.size, i.bytes)) = some (some (.agg #[.int .i64 0, .int .i64 0, .int .i64 0, .int .i64 0]), 4, 32) := by kernel_rfl
theorem Sl.blw {w v : World} {ao : Option Addr} {n : Nat} {f : Cs} (h : Sl w ao n f) (k : Below w.heap.size w v) : Sl v ao n f := fun hn => by
 obtain ⟨b, off, e, hp⟩ := h hn
 exact ⟨b, off, e, fun i hi => ⟨Below.reads k (hp i hi).1, Below.reads k (hp i hi).2⟩⟩
theorem mof_e (b : Bd) {w : World} (hi : BdI b) (hp : BodyP b) (hs : Sl w b.ao b.n b.f) {p q r s : Int} (e0 : mA b = p) (e1 : mI b = q) (e2 : moveB b = r) (e3 : spinB b = s) :
  Calls Tryz.prog 37 #[bdV b] w fun e v => e = .returned (.agg #[.int .i64 p, .int .i64 q, .int .i64 r, .int .i64 s]) ∧ Below w.heap.size w v := by
 have h := mof_c b hi hp hs
 rw [mass_enc] at h
 subst e0 e1 e2 e3
 exact h
theorem encM_one (b : Bd) : ∀ v ∈ encM b, v.oneCell' = true := by
 intro v hv; simp [encM] at hv; rcases hv with rfl | rfl | rfl | rfl <;> rfl
def alM (p0 p1 p2 p3 : Int) (i : Nat) (v : World) (g : Nat) (e : MB.Ex) : Prop := Has v g 96 #[.int .i64 p0, .int .i64 p1, .int .i64 p2, .int .i64 p3] ∧ g < e.hi
theorem alM_lasts (p0 p1 p2 p3 : Int) : MB.Lasts (alM p0 p1 p2 p3) := fun i u v g e h hh k => ⟨h.1.below k h.1.here, h.2⟩
def valM (i g : Nat) (e : MB.Ex) : Value := .slice (some ⟨g, 0, none⟩) 1 1
theorem But.blw {X : Nat → Prop} {B : Nat} {w v : World} (k : But X w v) (hB : B ≤ w.heap.size) (hX : ∀ b, X b → B ≤ b) : Below B w v :=
 ⟨k.os, k.tape, k.output, k.size, fun b hb => k.block b (Nat.lt_of_lt_of_le hb hB) (fun hx => by have := hX b hx; omega)⟩
theorem own_apart_row {w : World} {base n : Nat} {t : TypeId} {size g : Nat} {x : Value} {xs : List Value} (h : w.ownsRow base t size x n xs) (hx : some g ≠ x.ownBlock) (cs : Array Value) : (w.setRow g cs).ownsRow base t size x n xs := by
 refine ⟨h.1, h.2.imp id ?_⟩
 rintro ⟨g', cap, cur, e, hb, hg, r⟩
 refine ⟨g', cap, cur, e, hb, ?_, r⟩
 rw [setRow_other w g g' cs (fun e2 => hx (by rw [e, ← e2]; rfl))]
 exact hg
def zero11 : Array Value := #[.int .i64 0, .int .i64 0, .int .i64 0, .int .i64 0, .int .i64 0, .int .i64 0, .int .i64 0, .int .i64 0, .int .i64 0, .int .i64 0, .slice none 0 0]
theorem take_snoc {α : Type} {l : List α} {k : Nat} {x : α} (h : l[k]? = some x) : l.take (k + 1) = l.take k ++ [x] := by
 obtain ⟨hl, hx⟩ := List.getElem?_eq_some_iff.1 h
 rw [List.take_add_one, h]; rfl
theorem weighed_c {L : List Bd} {ao : Option Addr} {n cb : Nat} {w : World} (hn : L.length = n) (hl : LsT encB 11 w ao L) (ho : SlOk ao n cb) (hI : ∀ b ∈ L, BdI b) (hP : ∀ b ∈ L, BodyP b) (hS : ∀ b ∈ L, Sl w b.ao b.n b.f) (hmx : n ≤ 1073741824) :
  Calls Tryz.prog 23 #[.slice ao n cb] w fun e w' => ∃ om cm, e = .returned (.agg #[.slice ao n cb, .slice om n cm]) ∧ Below w.heap.size w w' ∧ w'.ownsRow w.heap.size 96 4 (.slice om n cm) n (flatE encM L) := by
 have HN := hid hn
 obtain ⟨hnc, hcm, ho⟩ := ho
 have HL := hid (fun v (k : Below w.heap.size w v) => hl.below k)
 have HI := hid hI; have HP := hid hP
 have HS := hid (fun v (k : Below w.heap.size w v) b hb => (Sl.blw (hS b hb) k))
 obtain ⟨iO, hiO, hz0, hz1, hz2⟩ := info_parts infoM
 have iHi := hid hiO; have iH0 := hid hz0; have iH1 := hid hz1; have iH2 := hid hz2
 clear hn hl hI hP hS hiO hz0 hz1 hz2
 obtain ⟨g0, eg0⟩ : ∃ g, w.heap.size = g := ⟨_, rfl⟩
 obtain ⟨g1, eg1⟩ : ∃ g, g0 + 1 = g := ⟨_, rfl⟩
 have HW1 : Hid (Has ((w.alloc (.cells #[.slice none 0 0, .slice none 0 0] 79)).alloc (.cells #[.slice ao n cb, .slice none 0 0] 79)) g1 79 #[.slice ao n cb, .slice none 0 0]) := by
  unfold Hid; rw [← eg1, ← eg0]
  have := has_new (w.alloc (.cells #[.slice none 0 0, .slice none 0 0] 79)) 79 #[.slice ao n cb, .slice none 0 0]
  simpa using this
 have HW0 : Hid (Has ((w.alloc (.cells #[.slice none 0 0, .slice none 0 0] 79)).alloc (.cells #[.slice ao n cb, .slice none 0 0] 79)) g0 79 #[.slice none 0 0, .slice none 0 0]) := by
  unfold Hid; rw [← eg0]
  exact (has_new w 79 #[.slice none 0 0, .slice none 0 0]).more _
 have HB1 : Hid (Below g0 w ((w.alloc (.cells #[.slice none 0 0, .slice none 0 0] 79)).alloc (.cells #[.slice ao n cb, .slice none 0 0] 79))) := by
  unfold Hid; rw [← eg0]
  exact ((Made.rfl_ w.heap.size w).cells (Nat.le_refl _) _ _).1.trans (((Made.rfl_ _ _).cells (Nat.le_refl _) _ _).1.mono (by simp))
 go_enter Tryz.func23, Tryz.ntmps23
 go_wp2_with fail
 go_loopg [5, 10] n (fun gg s5 s10 wx => ∃ k : Nat, k + gg = n ∧ s10 = .int .i64 (k : Nat) ∧ Hid (∃ om cm, Has wx g1 79 #[.slice ao n cb, .slice om k cm] ∧ wx.ownsRow g0 96 4 (.slice om k cm) k (flatE encM (L.take k))) ∧ Hid (Has wx g0 79 #[.slice none 0 0, .slice none 0 0]) ∧ Hid (Below g0 w wx))
 case atStart => exact ⟨0, by omega, by first | rfl | trivial, ⟨none, 0, HW1.out, World.ownsRow_nil _ _ _ _⟩, HW0.out, HB1.out⟩
 case round =>
  obtain ⟨k, hk, rfl, HH, H0, HB⟩ := hrel
  obtain ⟨om, cm, hh1, hown⟩ := HH.out
  have HG1 := hid hh1
  have HO := hid hown
  clear hh1 hown HH HW1 HW0 HB1
  by_cases hkn : k < n
  ·obtain ⟨x, hx⟩ : ∃ x, L[k]? = some x := ⟨_, List.getElem?_eq_getElem (by rw [HN.out]; exact hkn)⟩
   obtain ⟨bb, off, rfl, hbb, hLB⟩ := (HL.out wr (by rw [eg0]; exact HB.out)) (by rw [HN.out]; omega)
   have hxm := List.mem_of_getElem? hx
   have HX := hid hx
   have HXI := hid (HI.out x hxm)
   have HXP := hid (HP.out x hxm)
   have HXS := hid (fun v (k : Below w.heap.size w v) => HS.out v k x hxm)
   obtain ⟨cs, ecs⟩ : ∃ cs, encB x = cs := ⟨_, rfl⟩
   have HRg : Hid (wr.rangeAt bb (off + k * 11) cs) := by unfold Hid; rw [← ecs]; exact LsB.rangeAt hLB hx
   have HLN : Hid (cs.length = 11) := by unfold Hid; rw [← ecs]; rfl
   have H1C : Hid (∀ v ∈ cs, v.oneCell' = true) := by unfold Hid; rw [← ecs]; exact encB_one x
   obtain ⟨g7, eg7⟩ : ∃ g, wr.heap.size = g := ⟨_, rfl⟩
   have HTH : Hid ((wr.alloc (.cells #[.int .i64 0, .int .i64 0, .int .i64 0, .int .i64 0, .int .i64 0, .int .i64 0, .int .i64 0, .int .i64 0, .int .i64 0, .int .i64 0, .slice none 0 0] 43)).there g7 0 cs.toArray.size) := by
    unfold Hid; rw [← eg7]; exact there_of (has_new _ _ _) (by rw [List.size_toArray, HLN.out]; decide)
   have ECS := hid ecs
   clear hx hLB hxm ecs
   go_upto_region 5 with (first
    | refine wpList_load_mid rfl 43 (.tmp 12) rfl bb (off + k * 11) rfl cs _ HRg.out Tryz.underlying43 rfl (by rw [HLN.out]; kernel_rfl) ?_
    | refine wpList_store_mid rfl 43 (.tmp 5) (.tmp 13) rfl g7 0 cs.toArray rfl rfl HTH.out (by rw [List.size_toArray, HLN.out]; kernel_rfl) (all_oneCell_toArray H1C.out) ?_)
   obtain ⟨W4, e4⟩ : ∃ V, V = (wr.alloc (.cells #[.int .i64 0, .int .i64 0, .int .i64 0, .int .i64 0, .int .i64 0, .int .i64 0, .int .i64 0, .int .i64 0, .int .i64 0, .int .i64 0, .slice none 0 0] 43)).setCells g7 0 cs := ⟨_, rfl⟩
   have k4 : Made wr.heap.size wr W4 := by rw [e4]; exact Made.setCells (Nat.le_of_eq eg7) _ _ ((Made.rfl_ _ _).cells (Nat.le_refl _) _ _)
   have HX4 : Has W4 g7 43 cs.toArray := by
    have h := (has_new wr 43 #[.int .i64 0, .int .i64 0, .int .i64 0, .int .i64 0, .int .i64 0, .int .i64 0, .int .i64 0, .int .i64 0, .int .i64 0, .int .i64 0, .slice none 0 0]).whole (vs := cs.toArray) (by rw [List.size_toArray, HLN.out]; rfl)
    rw [eg7] at h
    rw [e4]
    exact h
   rw [← ECS.out] at HX4
   rw [← e4]
   simp only [Act.put]
   have HG4 := hid (HG1.out.below k4.1 HG1.out.here)
   have H04 := hid (H0.out.below k4.1 H0.out.here)
   have HO4 := hid (own_below (B := 0) HO.out k4.1)
   have HB4 : Hid (Below g0 w W4) := HB.out.trans (k4.1.mono (by rw [← eg0]; exact HB.out.size))
   have l1 : g1 < W4.heap.size := HG4.out.here
   clear e4 eg7 HTH k4 HG1 H0 HO HB HRg
   obtain ⟨p0, ep0⟩ : ∃ y, mA x = y := ⟨_, rfl⟩
   obtain ⟨p1, ep1⟩ : ∃ y, mI x = y := ⟨_, rfl⟩
   obtain ⟨p2, ep2⟩ : ∃ y, moveB x = y := ⟨_, rfl⟩
   obtain ⟨p3, ep3⟩ : ∃ y, spinB x = y := ⟨_, rfl⟩
   have HEM : Hid (encM x = [.int .i64 p0, .int .i64 p1, .int .i64 p2, .int .i64 p3]) := by unfold Hid encM; rw [ep0, ep1, ep2, ep3]
   refine MB.reg_mk (alM p0 p1 p2 p3) 5 [0, 1, 2, 3, 4] [0, 1, 2, 3] [4] [] (fun _ => []) (val := valM) (by kernel_rfl) (by kernel_rfl) (fun p hp => absurd hp (by simp)) ?_
   refine MB.can_class (rest := [4]) [0, 1, 2, 3] [] 23 (alM_lasts _ _ _ _) (MB.any_class _) (by kernel_rfl) rfl (by kernel_rfl) (by kernel_rfl) ?_
   apply Exists.intro
   refine ⟨?r1, ?r2⟩
   case r1 =>
    intro T hT f hf _
    have c1 := ClassB.reads hf (p := ⟨g1, 1, none⟩) (u := .slice om k cm) (by rw [HG4.out.at_]; rfl)
    have b0 := ClassB.reads hf (p := ⟨g7, 0, none⟩) (u := .int .i64 x.id) (by rw [HX4.at_]; rfl)
    have b1 := ClassB.reads hf (p := ⟨g7, 1, none⟩) (u := .int .i64 x.x) (by rw [HX4.at_]; rfl)
    have b2 := ClassB.reads hf (p := ⟨g7, 2, none⟩) (u := .int .i64 x.y) (by rw [HX4.at_]; rfl)
    have b3 := ClassB.reads hf (p := ⟨g7, 3, none⟩) (u := .int .i64 x.vx) (by rw [HX4.at_]; rfl)
    have b4 := ClassB.reads hf (p := ⟨g7, 4, none⟩) (u := .int .i64 x.vy) (by rw [HX4.at_]; rfl)
    have b5 := ClassB.reads hf (p := ⟨g7, 5, none⟩) (u := .int .i64 x.an) (by rw [HX4.at_]; rfl)
    have b6 := ClassB.reads hf (p := ⟨g7, 6, none⟩) (u := .int .i64 x.sp) (by rw [HX4.at_]; rfl)
    have b7 := ClassB.reads hf (p := ⟨g7, 7, none⟩) (u := .int .i64 x.de) (by rw [HX4.at_]; rfl)
    have b8 := ClassB.reads hf (p := ⟨g7, 8, none⟩) (u := .int .i64 x.k) (by rw [HX4.at_]; rfl)
    have b9 := ClassB.reads hf (p := ⟨g7, 9, none⟩) (u := .int .i64 x.r) (by rw [HX4.at_]; rfl)
    have b10 := ClassB.reads hf (p := ⟨g7, 10, none⟩) (u := .slice x.ao x.n x.c) (by rw [HX4.at_]; rfl)
    have HC := hid (fun t => hf.below (x := t) (mof_e x HXI.out HXP.out (HXS.out _ (by rw [eg0]; exact HB4.out.trans ((hf.1 t).mono (by rw [← eg0]; exact HB4.out.size)))) ep0 ep1 ep2 ep3))
    change wpQuiet _ _ _ _ [_, _, _, _] _
    repeat (go_big_quiet_step ((go_at_call 37; exact HC.out _)))
    exact wpQuiet_nil rfl
   refine MB.can_mk 4 18 _ rfl rfl rfl (by rfl) ?m2 fun q2 e2 => ?n2
   case m2 =>
    intro G' u _ hu
    rw [show (execOp _ _).run Tryz.prog u = .ok (.value (.slice (some ⟨u.heap.size, 0, none⟩) 1 1)) (u.alloc (.cells #[.int .i64 p0, .int .i64 p1, .int .i64 p2, .int .i64 p3] 96)) from by go_simp]
    exact ⟨u.heap.size, ⟨u.heap.size + 1, .bool false⟩, rfl, hu.next (alM_lasts _ _ _ _) ((Made.rfl_ _ _).cells (Nat.le_refl _) _ _).1 (Nat.le_refl _) (by simp) (by simp) ⟨has_new _ _ _, by simp⟩⟩
   rw [show valM 4 q2 e2 = .slice (some ⟨q2, 0, none⟩) 1 1 from rfl]
   simp only [Act.put, List.setIfInBounds_toArray, List.set_cons_succ, List.set_cons_zero]
   intro w5 hu
   have hb5 := hu.1
   obtain ⟨hq1, hq2, hq3, hq4, _⟩ := hu.2.1 4 (q2, e2) (by unfold MB.upd; simp)
   have HNb : Hid (Has w5 q2 96 #[.int .i64 p0, .int .i64 p1, .int .i64 p2, .int .i64 p3]) := hq4
   have HG5 := hid (HG4.out.below hb5 HG4.out.here)
   have H05 := hid (H04.out.below hb5 H04.out.here)
   have HO5 := hid (own_below (B := 0) HO4.out hb5)
   have HB5 : Hid (Below g0 w w5) := HB4.out.trans (hb5.mono (by rw [← eg0]; exact HB4.out.size))
   clear hu hb5 hq1 hq2 hq3 hq4 HX4 HG4 H04 HO4 HB4 ep0 ep1 ep2 ep3
   have hs5 : g0 ≤ w5.heap.size := by rw [← eg0]; exact HB5.out.size
   have hg15 := HG5.out.here
   simp only [List.drop_succ_cons, List.drop_zero]
   refine (wpList_append_at rfl (.tmp 15) (.tmp 18) 77 rfl g0 96 iO (.agg #[.int .i64 0, .int .i64 0, .int .i64 0, .int .i64 0]) 4 32 Tryz.underlying77 iHi.out iH0.out iH1.out iH2.out rfl (by decide) (.slice om k cm) k (flatE encM (L.take k)) rfl HO5.out ⟨q2, 0, none⟩ 1 1 [.int .i64 p0, .int .i64 p1, .int .i64 p2, .int .i64 p3] rfl rfl (has_news HNb.out) (by rw [← HEM.out]; exact encM_one x) (by unfold maxLen; omega) (by omega) (by omega) (by omega) ?_)
   intro v6 w6 hown hbt hnx
   have hg1n : some g1 ≠ (Value.slice om k cm).ownBlock := own_apart HO5.out HG5.out (by decide)
   have hg0n : some g0 ≠ (Value.slice om k cm).ownBlock := own_apart HO5.out H05.out (by decide)
   have HG6 := hid (HG5.out.but hbt hg1n)
   have H06 := hid (H05.out.but hbt hg0n)
   have HB6 : Hid (Below g0 w w6) := HB5.out.trans (hbt.blw hs5 (fun b hb => (HO5.out.lt b hb.symm).1))
   rw [← HEM.out, flatE_snoc, ← take_snoc HX.out] at hown
   obtain ⟨om6, cm6, rfl⟩ : ∃ o c, v6 = .slice o (k + 1) c := by
    rcases hown.2 with ⟨_, h⟩ | ⟨g, cap, cur, e, _⟩
    ·omega
    ·exact ⟨_, _, e⟩
   have hg1o : some g1 ≠ (Value.slice om6 (k + 1) cm6).ownBlock := own_apart hown HG6.out (by decide)
   have HN1 : Hid (Has (w6.setCell ⟨g1, 1, none⟩ (.slice om6 (k + 1) cm6)) g1 79 #[.slice (some ⟨bb, off, none⟩) n cb, .slice om6 (k + 1) cm6]) := by
    have := HG6.out.put 1 (.slice om6 (k + 1) cm6)
    unfold Hid
    simpa using this
   have HN2 : Hid ((w6.setCell ⟨g1, 1, none⟩ (.slice om6 (k + 1) cm6)).ownsRow g0 96 4 (.slice om6 (k + 1) cm6) (k + 1) (flatE encM (L.take (k + 1)))) := own_other hown (p := ⟨g1, 1, none⟩) (fun e => hg1o e.symm) _
   have HN3 : Hid (Has (w6.setCell ⟨g1, 1, none⟩ (.slice om6 (k + 1) cm6)) g0 79 #[.slice none 0 0, .slice none 0 0]) := H06.out.other ⟨g1, 1, none⟩ (by show g0 ≠ g1; omega) _
   have HN4 : Hid (Below g0 w (w6.setCell ⟨g1, 1, none⟩ (.slice om6 (k + 1) cm6))) := by
    have h := HB6.out
    exact ⟨h.os, h.tape, h.output, Nat.le_trans h.size (by simp [World.setCell]), fun b hb => (Below.heap_setCell w6 ⟨g1, 1, none⟩ _ b (by show b ≠ g1; omega)).trans (h.block b hb)⟩
   have lg6 := HG6.out.here
   have c61 : w6.cell? ⟨g1, 1, none⟩ = some (.slice om k cm) := by rw [HG6.out.at_]; rfl
   have z61 := HG6.out.free 1
   clear hown hbt hnx hg1n hg0n hg1o HG5 H05 HO5 HB5 HNb
   go_wp2_with fail
   refine NoPanic.normal ?_
   go_wp2_with fail
   go_roundg (n - (k + 1))
   case measure => omega
   case rel => exact ⟨k + 1, by omega, by go_num, ⟨om6, cm6, HN1.out, HN2.out⟩, HN3.out, HN4.out⟩
  ·have e : k = n := by omega
   subst e
   go_wp2_with (first
    | refine wpList_load_row rfl 79 (.tmp 3) rfl g1 rfl 79 _ (0, 0) _ HG1.out Tryz.underlying79 rfl (by kernel_rfl) ?_
    | refine wpList_store_row rfl 79 (.tmp 2) (.tmp 22) rfl g0 #[.slice ao k cb, .slice om k cm] rfl rfl 79 _ H0.out (by kernel_rfl) rfl (by simp [Value.oneCell']) ?_)
   have hr := setRow_heap wr g0 #[.slice none 0 0, .slice none 0 0] #[.slice ao k cb, .slice om k cm] 79 (0, 0) H0.out
   refine bodyPost_ret (v := .agg #[.slice ao k cb, .slice om k cm]) (results_cell_row (p := 2) (ty := 79) rfl _ _ g0 79 _ (0, 0) _ rfl hr Tryz.underlying79 rfl (by kernel_rfl)) rfl ⟨om, cm, rfl, ?_, ?_⟩
   ·rw [eg0]
    exact ⟨HB.out.os, HB.out.tape, HB.out.output, Nat.le_trans HB.out.size (by simp [World.setRow]), fun b hb => (setRow_other wr g0 b _ (by omega)).trans (HB.out.block b hb)⟩
   ·rw [eg0]
    have h := HO.out
    rw [List.take_of_length_le (by rw [HN.out]; exact Nat.le_refl _)] at h
    refine own_apart_row h ?_ _
    exact fun e => own_apart h H0.out (by decide) e
end Go.Proofs.YtjhcejmfiekjgaaGreat.Fx
/- Package solve: bodies copied. -/
namespace Go.Proofs.YtjhcejmfiekjgaaGreat.Fx
open Go.ChangeShapes Go.WideShapes Go.ChangeAt Go.RowKit
set_option linter.unusedVariables false
theorem copied_c {X : Nat → Prop} {L : List Bd} {ob : Option Addr} {n cb : Nat} {w : World} (hL : WLs X w ob cb L none 0 [] none 0 []) (hn : L.length = n) (hm : n ≤ 1073741824) (h8 : ∀ b ∈ L, b.n ≤ 8) :
  Calls Tryz.prog 43 #[.slice ob n cb] w fun e v => ∃ ob' cb' B', e = .returned (.slice ob' n cb') ∧ Made w.heap.size w v ∧ SameBs L B' ∧ NewL encB 11 43 w v ob' n cb' B' ∧ ∀ b ∈ B', Mine (fun g => ob' = some ⟨g, 0, none⟩) w.heap.size v b := by
 have H := hid (wcopy_x 0 0 0 0 0 ob none none n cb 0 0 0 0 hL hn rfl rfl hm (by omega) (by omega) h8)
 have HN := hid hn
 clear hL hn h8
 go_enter Tryz.func43, Tryz.ntmps43
 go_wp2_with fail
 refine H.out.mono ?_
 rintro e v ⟨B', ob', oj', oc', cb', cj', cc', rfl, k, hl, hs, hB, hJ, hC, hO, hNN, hM⟩
 have K := hid k
 have HS : Hid (SameBs L B') := ⟨by rw [hl, HN.out], hs⟩
 have HB := hid hB
 have HM : Hid (∀ b ∈ B', Mine (fun g => ob' = some ⟨g, 0, none⟩) w.heap.size v b) := fun b hb => (hM b hb).more fun g hg => .inl (by first | exact .inl hg | exact hg)
 clear k hl hs hB hJ hC hO hNN hM H
 have hf : (Instr.field 31 (wdV 0 0 0 0 0 (.slice ob' n cb') (.slice oj' 0 cj') (.slice oc' 0 cc')) 4).run Tryz.prog v = .ok (.slice ob' n cb') v := by kernel_rfl
 go_wp2_with fail
 go_ret
 exact ⟨_, _, _, rfl, K.out, HS.out, HB.out, HM.out⟩
end Go.Proofs.YtjhcejmfiekjgaaGreat.Fx