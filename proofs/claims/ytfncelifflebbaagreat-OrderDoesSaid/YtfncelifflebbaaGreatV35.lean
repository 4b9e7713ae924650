/- OtM OtA -/
import Derived.Test.YtfncelifflebbaaGreatV6
import Derived.Test.YtfncelifflebbaaGreatV33
import Derived.Test.YtfncelifflebbaaGreatV34
import Derived.WalkLawsBesides

/- Of of package mass, of any body. -/






namespace Go.Proofs.YtfncelifflebbaaGreat.Fx
open Go.ChangeShapes Go.WideShapes Go.ChangeAt Go.RowKit
set_option linter.unusedVariables false

set_option maxRecDepth 100000 in
set_option maxHeartbeats 1000000 in
theorem of_static_any (p0 p1 p2 p3 p4 p5 p6 d K R : Int) (s : Value) (w : World) (hd : d ≤ 0) (A B : Int) :
    Calls Tryz.prog 22 #[bodyV p0 p1 p2 p3 p4 p5 p6 d K R s] w fun e w' => e = .returned (massOf d A B) ∧ Below w.heap.size w w' := by
  have hm := hid (show massOf d A B = massV 0 0 0 0 by unfold massOf; rw [if_pos hd])
  rw [hm.out]
  go_enter Tryz.func22, Tryz.ntmps22
  go_wp2_with fail
  obtain ⟨W, eW⟩ : ∃ W, W = (w.alloc (.cells (#[.int .i64 p0, .int .i64 p1, .int .i64 p2, .int .i64 p3, .int .i64 p4, .int .i64 p5, .int .i64 p6, .int .i64 d, .int .i64 K, .int .i64 R, s] : Array Value) 35)).alloc (.cells #[.int .i64 0, .int .i64 0, .int .i64 0, .int .i64 0] 65) := ⟨_, rfl⟩
  have hH : Has W (w.heap.size + 1) 65 #[.int .i64 0, .int .i64 0, .int .i64 0, .int .i64 0] := by rw [eW]; exact has_next _ _ _ _
  have k0 : Below w.heap.size w W := by rw [eW]; exact ((Below.refl _ w).alloc (Nat.le_refl _) _).alloc (by simp) _
  rw [← eW]
  have r0 := hH.at_ 0
  have r1 := hH.at_ 1
  have r2 := hH.at_ 2
  have r3 := hH.at_ 3
  exact bodyPost_ret (v := massV 0 0 0 0) (by simp [results, Tryz.results22, go_sem, r0, r1, r2, r3]) rfl ⟨rfl, k0⟩

set_option maxRecDepth 100000 in
set_option maxHeartbeats 1000000 in
theorem of_moves_any (p0 p1 p2 p3 p4 p5 p6 d K R : Int) (s : Value) (w : World) (id_ : I64 d) (hd : 0 < d) (A B : Int) (iA : I64 A) (iB : I64 B)
    (hA : ∀ v, Below w.heap.size w v → Calls Tryz.prog 59 #[shapeV K R s] v fun e w' => e = .returned (.int .i64 A) ∧ Below v.heap.size v w')
    (hB : ∀ v, Below w.heap.size w v → Calls Tryz.prog 60 #[shapeV K R s] v fun e w' => e = .returned (.int .i64 B) ∧ Below v.heap.size v w') :
    Calls Tryz.prog 22 #[bodyV p0 p1 p2 p3 p4 p5 p6 d K R s] w fun e w' => e = .returned (massOf d A B) ∧ Below w.heap.size w w' := by
  obtain ⟨a, ea⟩ : ∃ a, mulF d A = a := ⟨_, rfl⟩
  obtain ⟨b, eb⟩ : ∃ b, mulF d B = b := ⟨_, rfl⟩
  obtain ⟨m, em⟩ : ∃ m, max a 1 = m := ⟨_, rfl⟩
  obtain ⟨i, ei⟩ : ∃ i, max b 1 = i := ⟨_, rfl⟩
  obtain ⟨x, ex⟩ : ∃ x, divF 4294967296 m = x := ⟨_, rfl⟩
  obtain ⟨y, ey⟩ : ∃ y, divF 4294967296 i = y := ⟨_, rfl⟩
  have ia : I64 a := by rw [← ea]; exact i64_mul _ _
  have ib : I64 b := by rw [← eb]; exact i64_mul _ _
  have im : I64 m := by unfold I64 at *; omega
  have ii : I64 i := by unfold I64 at *; omega
  have i1 : I64 4294967296 := by unfold I64; omega
  have hm := hid (show massOf d A B = massV m i x y by unfold massOf; rw [if_neg (by omega), ea, eb, em, ei, ex, ey])
  rw [hm.out]
  have hle : decide (d ≤ 0) = false := by simp; omega
  have EA := hid ea
  have EB := hid eb
  have EX := hid ex
  have EY := hid ey
  have HA := hid hA
  have HB := hid hB
  clear ea eb ex ey hA hB hm
  go_enter Tryz.func22, Tryz.ntmps22
  go_wp2_with fail
  obtain ⟨W, eW⟩ : ∃ W, W = (w.alloc (.cells (#[.int .i64 p0, .int .i64 p1, .int .i64 p2, .int .i64 p3, .int .i64 p4, .int .i64 p5, .int .i64 p6, .int .i64 d, .int .i64 K, .int .i64 R, s] : Array Value) 35)).alloc (.cells #[.int .i64 0, .int .i64 0, .int .i64 0, .int .i64 0] 65) := ⟨_, rfl⟩
  have hH : Has W (w.heap.size + 1) 65 #[.int .i64 0, .int .i64 0, .int .i64 0, .int .i64 0] := by rw [eW]; exact has_next _ _ _ _
  have hG : Has W w.heap.size 35 #[.int .i64 p0, .int .i64 p1, .int .i64 p2, .int .i64 p3, .int .i64 p4, .int .i64 p5, .int .i64 p6, .int .i64 d, .int .i64 K, .int .i64 R, s] := by rw [eW]; exact (has_new _ _ _).more _
  have k0 : Below w.heap.size w W := by rw [eW]; exact ((Below.refl _ w).alloc (Nat.le_refl _) _).alloc (by simp) _
  rw [← eW]
  clear eW
  have c7 := hG.at_ 7
  have c8 := hG.at_ 8
  have c9 := hG.at_ 9
  have c10 := hG.at_ 10
  have K0 := hid k0
  have HH := hid hH
  simp at c7 c8 c9 c10
  clear k0 hH hG
  refine reg_below (by kernel_rfl) (by kernel_rfl) ?_
  intro T hT fw hf
  have z7 := hf.reads c7
  have z8 := hf.reads c8
  have z9 := hf.reads c9
  have z10 := hf.reads c10
  have hz := fun t => hf.below (x := t) (HA.out _ (K0.out.trans ((hf.1 t).mono K0.out.size)))
  have HZ := hid hz
  clear hz
  repeat (go_big_quiet_step ((first | (go_at_call 59; with_reducible exact HZ.out _) | (go_at_call 28; with_reducible exact hf.same (mul_is _ _ _ _ id_ iA EA.out)))))
  refine wpQuiet_nil ?_
  intro w3 h3
  have k3 := hf.here h3
  have c7 := Below.reads k3 c7
  have c8 := Below.reads k3 c8
  have c9 := Below.reads k3 c9
  have c10 := Below.reads k3 c10
  have K3 := hid (K0.out.trans (k3.mono K0.out.size))
  have HH3 := hid (HH.out.below k3 HH.out.here)
  clear z7 z8 z9 z10 HZ hf h3 k3 HH K0
  go_wp2_with fail
  refine reg_below (by kernel_rfl) (by kernel_rfl) ?_
  intro T hT fw hf
  have z7 := hf.reads c7
  have z8 := hf.reads c8
  have z9 := hf.reads c9
  have z10 := hf.reads c10
  have hz := fun t => hf.below (x := t) (HB.out _ (K3.out.trans ((hf.1 t).mono K3.out.size)))
  have HZ := hid hz
  clear hz
  repeat (go_big_quiet_step ((first | (go_at_call 60; with_reducible exact HZ.out _) | (go_at_call 28; with_reducible exact hf.same (mul_is _ _ _ _ id_ iB EB.out)))))
  refine wpQuiet_nil ?_
  intro w4 h4
  have k4 := hf.here h4
  have K4 := hid (K3.out.trans (k4.mono K3.out.size))
  have hH := HH3.out.below k4 HH3.out.here
  have r0 := hH.at_ 0
  have r1 := hH.at_ 1
  have r2 := hH.at_ 2
  have r3 := hH.at_ 3
  have m0 := hH.free 0
  have m1 := hH.free 1
  have m2 := hH.free 2
  have m3 := hH.free 3
  simp at r0 r1 r2 r3
  have HH4 := hid hH
  clear z7 z8 z9 z10 HZ hf h4 k4 HH3 hH
  go_wp2_with fail
  refine (div_is 4294967296 m x _ i1 im EX.out).mono ?_
  rintro e w' ⟨rfl, n1, rfl⟩
  go_wp2_with fail
  refine (div_is 4294967296 i y _ i1 ii EY.out).mono ?_
  rintro e w' ⟨rfl, n2, rfl⟩
  go_wp2_with fail
  obtain ⟨V, eV⟩ : ∃ V, V = (((((w4.drewN (n1 + n2)).setCell ⟨w.heap.size + 1, 0, none⟩ (.int .i64 m)).setCell ⟨w.heap.size + 1, 1, none⟩ (.int .i64 i)).setCell ⟨w.heap.size + 1, 2, none⟩ (.int .i64 x)).setCell ⟨w.heap.size + 1, 3, none⟩ (.int .i64 y)) := ⟨_, rfl⟩
  have hV : Has V (w.heap.size + 1) 65 #[.int .i64 m, .int .i64 i, .int .i64 x, .int .i64 y] := by
    rw [eV]
    exact ((((HH4.out.drawn (n1 + n2)).put 0 (.int .i64 m)).put 1 (.int .i64 i)).put 2 (.int .i64 x)).put 3 (.int .i64 y)
  have kV : Below w.heap.size w V := by
    rw [eV]
    have k5 : Below w.heap.size w (w4.drewN (n1 + n2)) := ⟨K4.out.os, K4.out.tape, K4.out.output, K4.out.size, K4.out.block⟩
    exact (((k5.setCell (p := ⟨w.heap.size + 1, 0, none⟩) (by simp) _).setCell (p := ⟨w.heap.size + 1, 1, none⟩) (by simp) _).setCell (p := ⟨w.heap.size + 1, 2, none⟩) (by simp) _).setCell (p := ⟨w.heap.size + 1, 3, none⟩) (by simp) _
  rw [← eV]
  have r0 := hV.at_ 0
  have r1 := hV.at_ 1
  have r2 := hV.at_ 2
  have r3 := hV.at_ 3
  simp at r0 r1 r2 r3
  exact bodyPost_ret (v := massV m i x y) (by simp [results, Tryz.results22, go_sem, r0, r1, r2, r3]) rfl ⟨rfl, kV⟩

theorem of_answers_any (p0 p1 p2 p3 p4 p5 p6 d K R : Int) (s : Value) (w : World) (id_ : I64 d) (A B : Int) (iA : I64 A) (iB : I64 B)
    (hA : ∀ v, Below w.heap.size w v → Calls Tryz.prog 59 #[shapeV K R s] v fun e w' => e = .returned (.int .i64 A) ∧ Below v.heap.size v w')
    (hB : ∀ v, Below w.heap.size w v → Calls Tryz.prog 60 #[shapeV K R s] v fun e w' => e = .returned (.int .i64 B) ∧ Below v.heap.size v w') :
    Calls Tryz.prog 22 #[bodyV p0 p1 p2 p3 p4 p5 p6 d K R s] w fun e w' => e = .returned (massOf d A B) ∧ Below w.heap.size w w' := by
  by_cases h : d ≤ 0
  · exact of_static_any p0 p1 p2 p3 p4 p5 p6 d K R s w h A B
  · exact of_moves_any p0 p1 p2 p3 p4 p5 p6 d K R s w id_ (by omega) A B iA iB hA hB
def areaB (b : Bd) : Int := if b.k = 1 then areaC b.r else sumT areaT b.f b.n b.n
def roundB (b : Bd) : Int := if b.k = 1 then roundC b.r else sumT roundT b.f b.n b.n
def massB (b : Bd) : Value := massOf b.de (areaB b) (roundB b)
theorem areaC_i64 (r : Int) : I64 (areaC r) := i64_mul _ _
theorem roundC_i64 (r : Int) : I64 (roundC r) := i64_div _ _
theorem mof_c (b : Bd) {w : World} (hi : BdI b) (hp : BodyP b) (hs : Sl w b.ao b.n b.f) :
    Calls Tryz.prog 22 #[bdV b] w fun e v => e = .returned (massB b) ∧ Below w.heap.size w v := by
  by_cases hk : b.k = 1
  · have hA : areaB b = areaC b.r := if_pos hk
    have hB : roundB b = roundC b.r := if_pos hk
    unfold massB
    rw [hA, hB]
    refine of_answers_any b.id b.x b.y b.vx b.vy b.an b.sp b.de b.k b.r _ w hi.de _ _ (areaC_i64 _) (roundC_i64 _) ?_ ?_
    · intro v k
      rw [hk]
      exact (area_circle b.r _ _ _ _ v hi.r rfl).mono fun e u h => ⟨h.1, h.2.1⟩
    · intro v k
      rw [hk]
      exact (round_circle b.r _ _ _ _ v hi.r rfl).mono fun e u h => ⟨h.1, h.2.1⟩
  · have hA : areaB b = sumT areaT b.f b.n b.n := if_neg hk
    have hB : roundB b = sumT roundT b.f b.n b.n := if_neg hk
    have hn : 0 < b.n ∧ b.n ≤ 8 := by
      rcases hp.shape with h | h
      · exact absurd h.1 hk
      · omega
    obtain ⟨g, off, e, hP⟩ := hs hn.1
    unfold massB
    rw [hA, hB]
    refine of_answers_any b.id b.x b.y b.vx b.vy b.an b.sp b.de b.k b.r _ w hi.de _ _ (sumT_i64 _ _ _ _) (sumT_i64 _ _ _ _) ?_ ?_
    · intro v k
      rw [e]
      exact area_is b.k b.r g off b.n b.c b.f v hk hn.1 hn.2 (fun i h => ⟨Below.reads k (hP i h).1, Below.reads k (hP i h).2⟩) hi.f
    · intro v k
      rw [e]
      exact round_is b.k b.r g off b.n b.c b.f v hk hn.1 hn.2 (fun i h => ⟨Below.reads k (hP i h).1, Below.reads k (hP i h).2⟩) hi.f
end Go.Proofs.YtfncelifflebbaaGreat.Fx


/- What orders do, plain; worlds of which only some blocks have turned, whatever marks what was made bears. -/


namespace Go.Proofs.YtfncelifflebbaaGreat.Fx
open Go.ChangeShapes Go.WideShapes Go.ChangeAt Go.RowKit
set_option linter.unusedVariables false

structure BuB (X : Nat → Prop) (w v : World) : Prop where
  os : v.os = w.os
  tape : v.tape = w.tape
  output : v.output = w.output
  size : w.heap.size ≤ v.heap.size
  block : ∀ b, b < w.heap.size → ¬ X b → v.heap[b]? = w.heap[b]?
theorem But.bub {X : Nat → Prop} {w v : World} (h : But X w v) : BuB X w v := ⟨h.os, h.tape, h.output, h.size, h.block⟩
theorem Below.bub {X : Nat → Prop} {w v : World} (h : Below w.heap.size w v) : BuB X w v := ⟨h.os, h.tape, h.output, h.size, fun b hb _ => h.block b hb⟩
theorem Made.bub {X : Nat → Prop} {w v : World} (h : Made w.heap.size w v) : BuB X w v := Below.bub h.1
theorem BuB.rfl_ (X : Nat → Prop) (w : World) : BuB X w w := (But.rfl_ X w).bub
theorem BuB.then_ {X : Nat → Prop} {a b c : World} (h : BuB X a b) (k : BuB X b c) : BuB X a c :=
  ⟨k.os.trans h.os, k.tape.trans h.tape, k.output.trans h.output, Nat.le_trans h.size k.size, fun i hi hx => (k.block i (Nat.lt_of_lt_of_le hi h.size) hx).trans (h.block i hi hx)⟩
theorem BuB.then_' {X Y : Nat → Prop} {a b c : World} (h : BuB X a b) (k : BuB Y b c) (hY : ∀ g, Y g → X g ∨ a.heap.size ≤ g) : BuB X a c :=
  ⟨k.os.trans h.os, k.tape.trans h.tape, k.output.trans h.output, Nat.le_trans h.size k.size, fun i hi hx => (k.block i (Nat.lt_of_lt_of_le hi h.size) (fun hy => by
    rcases hY i hy with h1 | h1
    · exact hx h1
    · omega)).trans (h.block i hi hx)⟩
theorem BuB.up {X Y : Nat → Prop} {w v : World} (k : BuB X w v) (h : ∀ b, b < w.heap.size → X b → Y b) : BuB Y w v :=
  ⟨k.os, k.tape, k.output, k.size, fun b hb hy => k.block b hb (fun hx => hy (h b hb hx))⟩
theorem BuB.below_ {X : Nat → Prop} {B : Nat} {a w v : World} (h : Below B a w) (k : BuB X w v) (hB : B ≤ w.heap.size) (hX : ∀ b, X b → B ≤ b) : Below B a v :=
  ⟨k.os.trans h.os, k.tape.trans h.tape, k.output.trans h.output, Nat.le_trans h.size k.size, fun b hb => (k.block b (Nat.lt_of_lt_of_le hb hB) (fun hx => by have := hX b hx; omega)).trans (h.block b hb)⟩
theorem BuB.put {X : Nat → Prop} {a w : World} (h : BuB X a w) {p : Addr} (hp : X p.block ∨ a.heap.size ≤ p.block) (u : Value) : BuB X a (w.setCell p u) := by
  have e : (w.setCell p u).heap.size = w.heap.size := by simp [World.setCell]
  refine ⟨h.os, h.tape, h.output, Nat.le_trans h.size (Nat.le_of_eq e.symm), fun b hb hx => ?_⟩
  refine (Below.heap_setCell w p u b ?_).trans (h.block b hb hx)
  rintro rfl
  rcases hp with hp | hp
  · exact hx hp
  · omega
theorem BuB.cell {X : Nat → Prop} {w v : World} (h : BuB X w v) {p : Addr} {x : Value} (k : w.cell? p = some x) (hx : ¬ X p.block) : v.cell? p = some x :=
  (World.cell?_of_block (h.block p.block (World.block_lt_of_cell? w _ k) hx)).trans k
theorem Has.bub {X : Nat → Prop} {w v : World} {g : Nat} {t : TypeId} {cs : Array Value} (h : Has w g t cs) (k : BuB X w v) (hx : ¬ X g) : Has v g t cs := (k.block g h.here hx).trans h
section
variable {α : Type} {enc : α → List Value} {k : Nat}
theorem LsB.bub {X : Nat → Prop} {w v : World} {b off : Nat} {l : List α} (h : LsB enc k w b off l) (kk : BuB X w v) (hx : ¬ X b) : LsB enc k v b off l := fun i x hi j u hu => kk.cell (h i x hi j u hu) hx
theorem LsT.bub {X : Nat → Prop} {w v : World} {ao : Option Addr} {l : List α} (h : LsT enc k w ao l) (kk : BuB X w v) (hx : 0 < l.length → Offs X ao) : LsT enc k v ao l := fun hl => by
  obtain ⟨b, off, e, hb, h⟩ := h hl
  exact ⟨b, off, e, Nat.lt_of_lt_of_le hb kk.size, h.bub kk (hx hl b off _ e)⟩
end
theorem Pts.bub {X : Nat → Prop} {w v : World} {b off n : Nat} {f : Nat → Int × Int} (h : Pts w b off n f) (k : BuB X w v) (hx : ¬ X b) : Pts v b off n f := fun i hi => ⟨k.cell (h i hi).1 hx, k.cell (h i hi).2 hx⟩
theorem Sl.bub {X : Nat → Prop} {w v : World} {ao : Option Addr} {n : Nat} {f : Cs} (h : Sl w ao n f) (k : BuB X w v) (hx : 0 < n → Offs X ao) : Sl v ao n f := fun hn => by
  obtain ⟨b, off, e, hp⟩ := h hn
  exact ⟨b, off, e, hp.bub k (hx hn b off _ e)⟩
theorem WLs.bub {X Y : Nat → Prop} {w v : World} {ob oj oc : Option Addr} {cb cj cc : Nat} {B : List Bd} {J : List Jt} {C : List Ct} (h : WLs X w ob cb B oj cj J oc cc C) (k : BuB Y w v) (hY : ∀ b, Y b → X b) : WLs X v ob cb B oj cj J oc cc C :=
  have k : BuB X w v := k.up (fun b _ => hY b)
  ⟨⟨h.at_.lB.bub k h.offB, h.at_.lJ.bub k h.offJ, h.at_.lC.bub k h.offC, fun b hb => ⟨(h.at_.sB b hb).1.bub k (h.offP b hb), (h.at_.sB b hb).2⟩, h.at_.iJ, h.at_.iC⟩, h.okB, h.okJ, h.okC, h.offB, h.offJ, h.offC, h.offP, h.okP⟩
theorem WVar.bub {X Y : Nat → Prop} {w v : World} {gw : Nat} {tk nb nj gx gy : Int} {B : List Bd} {J : List Jt} {C : List Ct} (h : WVar X w gw tk nb nj gx gy B J C) (k : BuB Y w v) (hY : ∀ b, Y b → X b) (hg : ¬ Y gw) : WVar X v gw tk nb nj gx gy B J C := by
  obtain ⟨ob, oj, oc, cb, cj, cc, hH, hL⟩ := h
  exact ⟨ob, oj, oc, cb, cj, cc, hH.bub k hg, hL.bub k hY⟩

theorem void_end {P : Program} {fn : Func} {R : Ending → World → Prop} {a : Act} {w : World} (h : fn.results = #[]) (hd : a.defers = []) (hR : R (.returned (.tuple #[])) w) : bodyPost P fn R .normal a w := bodyPost_end (results_none h _ _ _) hd hR
theorem void_ret {P : Program} {fn : Func} {R : Ending → World → Prop} {a : Act} {w : World} (h : fn.results = #[]) (hd : a.defers = []) (hR : R (.returned (.tuple #[])) w) : bodyPost P fn R .ret a w := bodyPost_ret (results_none h _ _ _) hd hR

structure PG where
  tk : Int
  gx : Int
  gy : Int
  P : PW
abbrev GV (X : Nat → Prop) (w : World) (gw : Nat) (G : PG) : Prop := WVar X w gw G.tk G.P.nb G.P.nj G.gx G.gy G.P.B G.P.J G.P.C
abbrev GOk (G : PG) : Prop := WorldP G.tk G.P.nb G.P.nj G.gx G.gy G.P.B G.P.J G.P.C
theorem GOk.p {G : PG} (h : GOk G) : POk G.P := ⟨h.hB, h.hJ, h.hC⟩
theorem POk.g {G : PG} (h : POk G.P) (ht : 0 ≤ G.tk ∧ G.tk ≤ 4611686018427387904) (hx : Inn G.gx 17592186044416) (hy : Inn G.gy 17592186044416) : GOk G := ⟨ht, hx, hy, h.hB, h.hJ, h.hC⟩


def moveB (b : Bd) : Int := if b.de ≤ 0 then 0 else divF 4294967296 (max (mulF b.de (areaB b)) 1)
def spinB (b : Bd) : Int := if b.de ≤ 0 then 0 else divF 4294967296 (max (mulF b.de (roundB b)) 1)
def pushB (vx vy sp : Int) (b : Bd) : Bd := { b with vx := bringF (addF b.vx (mulF vx (moveB b))) (negF 17592186044416) 17592186044416, vy := bringF (addF b.vy (mulF vy (moveB b))) (negF 17592186044416) 17592186044416, sp := bringF (addF b.sp (mulF sp (spinB b))) (-1099511627776) 1099511627776 }
theorem moveB_i (b : Bd) : I64 (moveB b) := by
  unfold moveB
  split
  · exact i64_0
  · exact i64_div _ _
theorem spinB_i (b : Bd) : I64 (spinB b) := by
  unfold spinB
  split
  · exact i64_0
  · exact i64_div _ _
theorem inn_bring (a m : Int) (h0 : 0 ≤ m) (h1 : m ≤ 4611686018427387904) : Inn (bringF a (negF m) m) m := by
  have e1 : cl (-m) = -m := cl_id (by omega)
  have e2 : cl m = m := cl_id (by omega)
  unfold bringF negF Inn
  rw [e2, e1]
  split
  · omega
  · split <;> omega
theorem pushB_ok {vx vy sp : Int} {b : Bd} (h : BodyP b) (hd : 0 < b.de) : BodyP (pushB vx vy sp b) :=
  ⟨h.shape, h.x, h.y, inn_bring _ _ (by omega) (by omega), inn_bring _ _ (by omega) (by omega), by
    have := inn_bring (addF b.sp (mulF sp (spinB b))) 1099511627776 (by omega) (by omega)
    rwa [show negF 1099511627776 = -1099511627776 by unfold negF; rw [cl_id (by omega)]] at this, h.an, h.de, fun h0 => by have h0 : b.de = 0 := h0; omega⟩
def PushP (id vx vy sp : Int) (P P' : PW) : Prop :=
  ((∀ b ∈ P.B, b.id = id → b.de ≤ 0) ∧ P' = P) ∨
  ∃ (i : Nat) (b : Bd), P.B[i]? = some b ∧ b.id = id ∧ 0 < b.de ∧ P' = ⟨P.nb, P.nj, P.B.set i (pushB vx vy sp b), P.J, P.C⟩
theorem ids_set {B : List Bd} {i : Nat} {b b' : Bd} (h : B[i]? = some b) (e : b'.id = b.id) : ids (B.set i b') = ids B := by
  obtain ⟨hi, hb⟩ := List.getElem?_eq_some_iff.1 h
  have hi' : i < (B.map (·.id)).length := by simpa using hi
  have e2 : b'.id = (B.map (·.id))[i] := by rw [List.getElem_map, hb, e]
  unfold ids
  rw [List.map_set, e2, List.set_getElem_self]
theorem push_ok {id vx vy sp : Int} {P P' : PW} (h : POk P) (k : PushP id vx vy sp P P') : POk P' := by
  rcases k with ⟨_, rfl⟩ | ⟨i, b, hb, _, hd, rfl⟩
  · exact h
  · have e : ids (P.B.set i (pushB vx vy sp b)) = ids P.B := ids_set hb rfl
    refine ⟨⟨by simpa using h.hB.len, fun x hx => ?_, by show NumP (ids _) _; rw [e]; exact h.hB.num⟩, ⟨h.hJ.len, fun j hj => ?_, h.hJ.num⟩, ⟨fun c hc => ?_, h.hC.up⟩⟩
    · rcases List.mem_or_eq_of_mem_set hx with hx | rfl
      · exact h.hB.all x hx
      · exact pushB_ok (h.hB.all b (List.mem_of_getElem? hb)) hd
    · show JointP j ∧ j.a ∈ ids _ ∧ j.b ∈ ids _
      rw [e]
      exact h.hJ.all j hj
    · show c.a < c.b ∧ 0 ≤ c.key ∧ 0 ≤ c.n ∧ c.a ∈ ids _ ∧ c.b ∈ ids _
      rw [e]
      exact h.hC.all c hc


def ExecP (o : Or) (G : PG) (er : Int) (G' : PG) : Prop :=
  (o.kd = 1 ∧ ∃ n P', AddBP (bodyOr o) G.P n er P' ∧ G' = ⟨G.tk, G.gx, G.gy, P'⟩) ∨
  (o.kd = 2 ∧ er = 0 ∧ ∃ gone P', RemBP o.id G.P gone P' ∧ G' = ⟨G.tk, G.gx, G.gy, P'⟩) ∨
  (o.kd = 3 ∧ ∃ n P', AddJP (jointOr o) G.P n er P' ∧ G' = ⟨G.tk, G.gx, G.gy, P'⟩) ∨
  (o.kd = 4 ∧ er = 0 ∧ ∃ gone P', RemJP o.id G.P gone P' ∧ G' = ⟨G.tk, G.gx, G.gy, P'⟩) ∨
  (o.kd = 5 ∧ er = 0 ∧ ∃ P', PushP o.id o.vx o.vy o.sp G.P P' ∧ G' = ⟨G.tk, G.gx, G.gy, P'⟩) ∨
  (o.kd = 6 ∧ er = 0 ∧ G' = ⟨G.tk, o.vx, o.vy, G.P⟩)
theorem exec_ok {o : Or} {G G' : PG} {er : Int} (h : GOk G) (ho : OrderP o) (k : ExecP o G er G') : GOk G' := by
  rcases k with ⟨_, n, P', k, rfl⟩ | ⟨_, _, g, P', k, rfl⟩ | ⟨_, n, P', k, rfl⟩ | ⟨_, _, g, P', k, rfl⟩ | ⟨_, _, P', k, rfl⟩ | ⟨hk, _, rfl⟩
  · exact POk.g (addB_ok h.p k) h.tk h.gx h.gy
  · refine POk.g ?_ h.tk h.gx h.gy
    rcases k with ⟨_, _, rfl⟩ | ⟨_, _, rfl⟩
    · exact h.p
    · exact remB_ok h.p
  · exact POk.g (addJ_ok h.p k) h.tk h.gx h.gy
  · refine POk.g ?_ h.tk h.gx h.gy
    rcases k with ⟨_, _, rfl⟩ | ⟨_, _, rfl⟩
    · exact h.p
    · exact remJ_ok h.p
  · exact POk.g (push_ok h.p k) h.tk h.gx h.gy
  · rcases ho with h1 | h1 | h1 | h1 | h1
    · omega
    · omega
    · omega
    · omega
    · exact POk.g h.p h.tk h1.2.2.2.2.2.2.2.2.1 h1.2.2.2.2.2.2.2.2.2
end Go.Proofs.YtfncelifflebbaaGreat.Fx

