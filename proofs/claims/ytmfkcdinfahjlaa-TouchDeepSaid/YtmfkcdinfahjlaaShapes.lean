/- Contracts of package shape. -/
import Derived.Test.YtmfkcdinfahjlaaVecs
import Derived.Test.YtmfkcdinfahjlaaMem
import Derived.Test.YtmfkcdinfahjlaaPlain
import Derived.Deep.LoopGhost
import Derived.LoopN
import Derived.WalkMore
import Derived.OwnWalk
import Derived.Lib.SliceRun

/- Contracts of package shape: after, near. -/
namespace Go.Proofs.Ytmfkcdinfahjlaa.Fx
open Go.ChangeShapes Go.WideShapes Go.ChangeAt Go.RowKit
set_option linter.unusedVariables false

/-- all of 64 bits -/
def Cin (f : Cs) (n : Nat) : Prop := ∀ i, i < n → I64 (f i).1 ∧ I64 (f i).2

theorem alc_V {d : Tmp} {ty : TypeId} {ps : String} {af : Array Edge} : Alc Try.prog { dst := some d, op := .alloc 26, type := ty, pos := ps, after := af, guard := none } d 26 #[.int .i64 0, .int .i64 0] :=
  ⟨rfl, rfl, fun a w => by go_simp⟩
theorem vneq_no (x y X Y : Int) (h : ¬ (X = x ∧ Y = y)) (w : World) : (binOp .neq 26 (vecV x y) (vecV X Y)).run Try.prog w = .ok (.bool true) w := by
  by_cases hx : x = X
  · have hy : (y == Y) = false := by simpa using fun e => h ⟨hx.symm, e.symm⟩
    subst hx
    go_simp
  · have hy : (x == X) = false := by simpa using hx
    go_simp

set_option maxRecDepth 100000 in
set_option maxHeartbeats 1000000 in
theorem after_is (b off n cap i k j : Nat) (x y : Int) (w : World) (hn : 0 < n) (h8 : n ≤ 8) (hi : i < 8) (hk : k ≤ 8) (hj : (i + k) % n = j)
    (hx : w.cell? ⟨b, off + j * 2, none⟩ = some (.int .i64 x)) (hy : w.cell? ⟨b, off + j * 2 + 1, none⟩ = some (.int .i64 y)) :
    Calls Try.prog 96 #[.slice (some ⟨b, off, none⟩) n cap, .int .i64 i, .int .i64 k] w fun e w' => e = .returned (vecV x y) ∧ Made w.heap.size w w' := by
  have hjn : j < n := by rw [← hj]; exact Nat.mod_lt _ hn
  have hm : ((i : Int) + (k : Int)).tmod (n : Int) = (j : Int) := by
    rw [Int.tmod_eq_emod_of_nonneg (by omega), ← hj, Int.natCast_emod, Int.natCast_add]
  have H := hid hj
  clear hj
  have hb : b < w.heap.size := World.block_lt_of_cell? _ _ hx
  go_enter Try.func96, Try.ntmps96
  go_wp2_with fail
  refine bodyPost_ret (v := vecV x y) (by simp [results, Try.results96, go_sem]) rfl ⟨rfl, ?_⟩
  exact (Made.rfl_ _ _).cells (Nat.le_refl _) _ _

end Go.Proofs.Ytmfkcdinfahjlaa.Fx

/- Contracts of package shape: Right. -/
namespace Go.Proofs.Ytmfkcdinfahjlaa.Fx
open Go.ChangeShapes Go.WideShapes Go.ChangeAt Go.RowKit
set_option linter.unusedVariables false

theorem yes_iff {p : Prop} (h : p) : true = true ↔ p := ⟨fun _ => h, fun _ => rfl⟩
theorem no_iff {p : Prop} (h : ¬ p) : false = true ↔ p := ⟨fun h => (by cases h), fun k => absurd k h⟩
/-- a shape as a value -/
abbrev shapeV (K R : Int) (s : Value) : Value := .agg #[.int .i64 K, .int .i64 R, s]
/-- a body of density d and shape s -/
abbrev bodyV (i x y vx vy an sp d K R : Int) (s : Value) : Value := .agg #[.int .i64 i, .int .i64 x, .int .i64 y, .int .i64 vx, .int .i64 vy, .int .i64 an, .int .i64 sp, .int .i64 d, .int .i64 K, .int .i64 R, s]
/-- the corners of a slice, where there are any -/
def Sl (w : World) (ao : Option Addr) (n : Nat) (f : Cs) : Prop := 0 < n → ∃ b off, ao = some ⟨b, off, none⟩ ∧ Pts w b off n f
theorem Sl.kept {w v : World} {ao : Option Addr} {n : Nat} {f : Cs} (h : Sl w ao n f) (k : Made w.heap.size w v) : Sl v ao n f := fun h0 => by
  obtain ⟨b, off, e, p⟩ := h h0
  exact ⟨b, off, e, p.kept k⟩

end Go.Proofs.Ytmfkcdinfahjlaa.Fx

/- Contracts of package shape: Corners, Normals. -/
namespace Go.Proofs.Ytmfkcdinfahjlaa.Fx
open Go.ChangeShapes Go.WideShapes Go.ChangeAt Go.RowKit
set_option linter.unusedVariables false

theorem info_V : (Try.prog.info? 26).map (fun i => (i.zero, i.size, i.bytes)) = some (some (.agg #[.int .i64 0, .int .i64 0]), 2, 16) := by kernel_rfl
/-- a list of n zero vectors is made -/
theorem make_V (n : Nat) (h8 : n ≤ 8) (w : World) : (Instr.makeSlice 30 (.int .i64 (n : Int)) (.int .i64 (n : Int))).run Try.prog w =
    .ok (.slice (some ⟨w.heap.size, 0, none⟩) n n) (w.alloc (.cells (madeCells #[Value.int .i64 0, Value.int .i64 0] (n * 2)) 26)) := by
  obtain ⟨i0, hi, hz0, hz1, hz2⟩ := info_parts info_V
  have h := run_make (P := Try.prog) w 30 26 i0 _ Try.underlying30 hi hz0 .i64 .i64 n n (by omega) (by omega) (by rw [hz2]; omega) (by omega)
  rw [hz1] at h
  exact h
theorem made_V (w : World) (n : Nat) : Row (w.alloc (.cells (madeCells #[Value.int .i64 0, Value.int .i64 0] (n * 2)) 26)) w.heap.size 26 n (fun _ => (0, 0)) :=
  Row.made w _ n _ (zeros_at n).1 (zeros_at n).2

/-- the corners in place -/
def placeF (f : Cs) (c s x y : Int) : Cs := fun i => (addF (subF (mulF c (f i).1) (mulF s (f i).2)) x, addF (addF (mulF s (f i).1) (mulF c (f i).2)) y)
/-- the first k of f, zeros behind -/
def upto (f : Cs) (k : Nat) : Cs := fun i => if i < k then f i else (0, 0)
theorem upto_next (f : Cs) (k : Nat) {x y : Int} (hx : (f k).1 = x) (hy : (f k).2 = y) (i : Nat) : (fun j => if j = k then (x, y) else upto f k j) i = upto f (k + 1) i := by
  subst hx; subst hy
  unfold upto
  simp only []
  by_cases h : i = k
  · subst h; rw [if_pos rfl, if_pos (by omega)]
  · rw [if_neg h]
    by_cases h1 : i < k
    · rw [if_pos h1, if_pos (by omega)]
    · rw [if_neg h1, if_neg (by omega)]
theorem upto_all (f : Cs) (n i : Nat) (h : i < n) : upto f n i = f i := by unfold upto; rw [if_pos h]

set_option maxRecDepth 100000 in
set_option maxHeartbeats 2000000 in
theorem corners_circle (R : Int) (s : Value) (x y a : Int) (w : World) :
    Calls Try.prog 31 #[shapeV 1 R s, vecV x y, .int .i64 a] w fun e w' => e = .returned (.slice none 0 0) ∧ Made w.heap.size w w' := by
  go_enter Try.func31, Try.ntmps31
  go_wp2_with fail
  go_ret
  exact ⟨rfl, ((Made.rfl_ _ _).cells (Nat.le_refl _) _ _).cells (by simp) _ _⟩
set_option maxRecDepth 100000 in
set_option maxHeartbeats 4000000 in
theorem corners_is (R : Int) (b off n cap : Nat) (f : Cs) (x y a : Int) (w : World) (hn : 0 < n) (h8 : n ≤ 8) (hp : Pts w b off n f) (hi : Cin f n) (hx : I64 x) (hy : I64 y) (ha : I64 a) :
    Calls Try.prog 31 #[shapeV 2 R (.slice (some ⟨b, off, none⟩) n cap), vecV x y, .int .i64 a] w fun e w' =>
      ∃ g, e = .returned (.slice (some ⟨g, 0, none⟩) n n) ∧ w.heap.size ≤ g ∧ Row w' g 26 n (placeF f (cs (stepF a)) (sn (stepF a)) x y) ∧ Made w.heap.size w w' := by
  have HP : Hid (∀ v, Made w.heap.size w v → Pts v b off n f) := fun v k => hp.kept k
  have HI := hid hi
  clear hp hi
  obtain ⟨k, ek⟩ : ∃ k, stepF a = k := ⟨_, rfl⟩
  rw [ek]
  have EK := hid ek
  clear ek
  have iC := I64_cs k
  have iS := I64_sn k
  obtain ⟨C, eC⟩ : ∃ C, cs k = C := ⟨_, rfl⟩
  obtain ⟨S, eS⟩ : ∃ S, sn k = S := ⟨_, rfl⟩
  rw [eC] at iC ⊢
  rw [eS] at iS ⊢
  have EC := hid eC
  have ES := hid eS
  clear eC eS
  have mk := make_V n h8
  go_enter Try.func31, Try.ntmps31
  go_wp2_with fail
  refine (turnOf_is a k _ ha EK.out).mono ?_
  rintro e w1 ⟨rfl, k1⟩
  rw [EC.out, ES.out]
  have x0 := k1.reads (p := ⟨w.heap.size, 2, none⟩) (x := .slice (some ⟨b, off, none⟩) n cap) (by go_simp)
  have y0 := k1.reads (p := ⟨w.heap.size + 1, 0, none⟩) (x := .int .i64 x) (by go_simp)
  have y1 := k1.reads (p := ⟨w.heap.size + 1, 1, none⟩) (x := .int .i64 y) (by go_simp)
  have M1 := hid (made_box (made_box k1))
  have sz : w.heap.size + 1 < w1.heap.size := World.block_lt_of_cell? _ _ y0
  have sz0 : w.heap.size < w1.heap.size := by omega
  clear k1
  go_wp2_with fail
  obtain ⟨G, eG⟩ : ∃ G, w1.heap.size + 1 = G := ⟨_, rfl⟩
  obtain ⟨W0, eW⟩ : ∃ W, W = (w1.alloc (.cells #[.int .i64 C, .int .i64 S] 103)).alloc (.cells (madeCells #[.int .i64 0, .int .i64 0] (n * 2)) 26) := ⟨_, rfl⟩
  have z0 : W0.cell? ⟨w.heap.size + 1, 0, none⟩ = some (.int .i64 x) := by rw [eW]; exact cell_more (cell_more y0)
  have z1 : W0.cell? ⟨w.heap.size + 1, 1, none⟩ = some (.int .i64 y) := by rw [eW]; exact cell_more (cell_more y1)
  have q0 : W0.cell? ⟨w1.heap.size, 0, none⟩ = some (.int .i64 C) := by rw [eW]; go_simp
  have q1 : W0.cell? ⟨w1.heap.size, 1, none⟩ = some (.int .i64 S) := by rw [eW]; go_simp
  have R0 : Hid (Row W0 G 26 n (upto (placeF f C S x y) 0)) := by
    unfold Hid
    rw [eW, ← eG]
    have := made_V (w1.alloc (.cells #[.int .i64 C, .int .i64 S] 103)) n
    simp only [World.size_alloc] at this
    exact this.congr fun i _ => by unfold upto; rw [if_neg (by omega)]
  have M0 : Hid (Made w.heap.size w W0) := by unfold Hid; rw [eW]; exact (M1.out.cells M1.out.1.size _ _).cells (by have := M1.out.1.size; simp; omega) _ _
  have P0 : Hid (Pts W0 b off n f) := HP.out _ M0.out
  have hbG : b < G := by
    have := (HP.out w (Made.rfl_ _ _)).here hn
    omega
  have hG1 : w.heap.size + 1 < G := by omega
  have hG2 : w1.heap.size < G := by omega
  have hGw : w.heap.size ≤ G := by omega
  rw [eG, ← eW]
  have Z0 := hid z0; have Z1 := hid z1; have Q0 := hid q0; have Q1 := hid q1
  clear eG eW z0 z1 q0 q1 x0 y0 y1 mk
  go_loopg [23] n (fun g t wr => ∃ m : Nat, m + g = n ∧ t = .int .i64 m ∧ Hid (Row wr G 26 n (upto (placeF f C S x y) m)) ∧ Hid (Made G W0 wr))
  case atStart => exact ⟨0, by omega, rfl, R0, Made.rfl_ _ _⟩
  case round =>
    obtain ⟨m, hm, rfl, HR, HM⟩ := hrel
    by_cases hlt : m < n
    · obtain ⟨u, eu⟩ : ∃ x, (f m).1 = x := ⟨_, rfl⟩
      obtain ⟨v, ev⟩ : ∃ y, (f m).2 = y := ⟨_, rfl⟩
      obtain ⟨iu, iv⟩ := HI.out m hlt
      obtain ⟨c0, c1⟩ := P0.out m hlt
      rw [eu] at iu c0
      rw [ev] at iv c1
      have c0 := HM.out.at_ (by exact hbG) c0
      have c1 := HM.out.at_ (by exact hbG) c1
      have z0 := HM.out.at_ (by exact hG1) Z0.out
      have z1 := HM.out.at_ (by exact hG1) Z1.out
      have q0 := HM.out.at_ (by exact hG2) Q0.out
      have q1 := HM.out.at_ (by exact hG2) Q1.out
      have hGr : G < wr.heap.size := HR.out.here
      have EU := hid eu
      have EV := hid ev
      clear eu ev
      obtain ⟨p, ep⟩ : ∃ p, subF (mulF C u) (mulF S v) = p := ⟨_, rfl⟩
      obtain ⟨q, eq⟩ : ∃ q, addF (mulF S u) (mulF C v) = q := ⟨_, rfl⟩
      have ip : I64 p := by rw [← ep]; exact i64_sub _ _
      have iq : I64 q := by rw [← eq]; exact i64_add _ _
      have EP := hid ep
      have EQ := hid eq
      clear ep eq
      obtain ⟨p', ep'⟩ : ∃ p', addF p x = p' := ⟨_, rfl⟩
      obtain ⟨q', eq'⟩ : ∃ q', addF q y = q' := ⟨_, rfl⟩
      have EP' := hid ep'
      have EQ' := hid eq'
      clear ep' eq'
      go_wp2_with fail
      refine reg_made_tail 8 (by kernel_rfl) (by kernel_rfl) ?_
      intro T hT fw hf
      have a0 := Class.reads hf (p := ⟨wr.heap.size, 0, none⟩) (u := .int .i64 u) (by go_simp)
      have a1 := Class.reads hf (p := ⟨wr.heap.size, 1, none⟩) (u := .int .i64 v) (by go_simp)
      have z0' := Class.reads hf (cell_more z0)
      have z1' := Class.reads hf (cell_more z1)
      have q0' := Class.reads hf (cell_more q0)
      have q1' := Class.reads hf (cell_more q1)
      simp only [List.take_succ_cons, List.take_zero, List.drop_succ_cons, List.drop_zero]
      repeat (go_big_quiet_step ((first
        | (go_at_call 57; with_reducible exact hf.made (vapply_is _ _ _ _ _ _ _ (by assumption) (by assumption) (by assumption) (by assumption) EP.out EQ.out))
        | (go_at_call 16; with_reducible exact hf.made (vadd_is _ _ _ _ _ _ _ (by assumption) (by assumption) (by assumption) (by assumption) EP'.out EQ'.out)))))
      refine wpQuiet_nil ?_
      intro w3 h3
      have k3 := made_box (hf.here h3)
      have R3 : Hid (Row w3 G 26 n (upto (placeF f C S x y) m)) := HR.out.stays k3 hGr
      have M3 : Hid (Made G W0 w3) := HM.out.then_ (k3.low (Nat.le_of_lt hGr))
      have r0 := (R3.out.pts m hlt).1
      have r1 := (R3.out.pts m hlt).2
      rw [Nat.zero_add] at r0 r1
      have fz : ∀ i, w3.frozen? ⟨G, i, none⟩ = false := R3.out.free
      clear k3 h3 hf a0 a1 z0 z1 z0' z1' q0 q1 q0' q1' c0 c1
      go_wp2_with fail
      go_roundg (n - m - 1)
      case rel =>
        refine ⟨m + 1, by omega, by go_num, (R3.out.put hlt p' q').congr fun i hi => ?_, (M3.out.put (by simp) _).put (by simp) _⟩
        refine upto_next _ _ ?_ ?_ i
        · unfold placeF; simp only []; rw [EU.out, EV.out, EP.out, EP'.out]
        · unfold placeF; simp only []; rw [EU.out, EV.out, EQ.out, EQ'.out]
      case measure => omega
    · go_wp2_with fail
      go_ret
      have e : m = n := by omega
      subst e
      exact ⟨G, rfl, hGw, HR.out.congr fun i hi => upto_all _ _ _ hi, M0.out.then_ (HM.out.low hGw)⟩
end Go.Proofs.Ytmfkcdinfahjlaa.Fx

/- Contracts of package shape: Box, Copy, Reach. -/
namespace Go.Proofs.Ytmfkcdinfahjlaa.Fx
open Go.ChangeShapes Go.WideShapes Go.ChangeAt Go.RowKit
set_option linter.unusedVariables false

theorem has_next (w : World) (o : Obj) (t : TypeId) (A : Array Value) : Has ((w.alloc o).alloc (.cells A t)) (w.heap.size + 1) t A := by simpa using has_new (w.alloc o) t A
/-- the corners of Box -/
def boxF (a b : Int) : Cs := fun i => (if i = 0 ∨ i = 3 then negF a else a, if i = 0 ∨ i = 1 then negF b else b)
set_option maxRecDepth 100000 in
set_option maxHeartbeats 2000000 in
theorem box_is (a b : Int) (w : World) (f : Cs) (ha : I64 a) (hb : I64 b) (hf : ∀ i, i < 4 → boxF a b i = f i) :
    Calls Try.prog 41 #[.int .i64 a, .int .i64 b] w fun e w' => ∃ g, e = .returned (shapeV 2 0 (.slice (some ⟨g, 0, none⟩) 4 4)) ∧ w.heap.size ≤ g ∧ Row w' g 26 4 f ∧ Made w.heap.size w w' := by
  have HF := hid hf
  clear hf
  go_enter Try.func41, Try.ntmps41
  go_wp2_with fail
  refine (neg_c a _ ha).mono ?_
  rintro e w' ⟨rfl, rfl⟩
  go_wp2_with fail
  refine (neg_c b _ hb).mono ?_
  rintro e w' ⟨rfl, rfl⟩
  go_wp2_with fail
  refine bodyPost_ret (v := shapeV 2 0 (.slice (some ⟨w.heap.size + 1, 0, none⟩) 4 4)) (by simp [results, Try.results41, go_sem]) rfl ⟨_, rfl, by omega, ?_, ((Made.rfl_ _ _).cells (Nat.le_refl _) _ _).cells (by simp) _ _⟩
  refine Row.congr (f := boxF a b) ?_ HF.out
  refine ⟨_, has_next _ _ _ _, by simp, fun j hj => ?_⟩
  rcases (show j = 0 ∨ j = 1 ∨ j = 2 ∨ j = 3 ∨ j = 4 ∨ j = 5 ∨ j = 6 ∨ j = 7 by omega) with rfl | rfl | rfl | rfl | rfl | rfl | rfl | rfl <;> rfl

end Go.Proofs.Ytmfkcdinfahjlaa.Fx
