/- SoP SoA SoB SoH -/
import Derived.Test.YtjhcejmfiekjgaaGreatSt4
import Derived.Test.YtjhcejmfiekjgaaGreatSt7
import Derived.Test.YtjhcejmfiekjgaaGreatSt17
set_option maxRecDepth 100000
set_option maxHeartbeats 64000000
/- Impulses, plainly: rows, ties, what a push does, the rounds (layer 11). Begun in round 13; no walk leans on it yet. -/
namespace Go.Proofs.YtjhcejmfiekjgaaGreat.Fx
set_option linter.unusedVariables false
structure Ro where
 a : Nat
 b : Nat
 key : Int
 n : Int × Int
 ra : Int × Int
 rb : Int × Int
 gn : Int
 gt : Int
 out : Int
 N : Int
 T : Int
structure Ti where
 a : Nat
 b : Nat
 n : Int × Int
 ra : Int × Int
 rb : Int × Int
 g : Int
 off : Int
def leftS (v : Int × Int) : Int × Int := (negF v.2, v.1)
def addS (a b : Int × Int) : Int × Int := (addF a.1 b.1, addF a.2 b.2)
def subS (a b : Int × Int) : Int × Int := (subF a.1 b.1, subF a.2 b.2)
def scaS (a : Int × Int) (k : Int) : Int × Int := (mulF a.1 k, mulF a.2 k)
def spunS (sp : Int) (r : Int × Int) : Int × Int := (mulF (negF r.2) sp, mulF r.1 sp)
def awayB (ra p : Int × Int) (b : Bd) : Bd := { b with vx := subF b.vx (mulF p.1 (moveB b)), vy := subF b.vy (mulF p.2 (moveB b)), sp := subF b.sp (mulF (spinB b) (crossV ra p)) }
def ontoB (rb p : Int × Int) (b : Bd) : Bd := { b with vx := addF b.vx (mulF p.1 (moveB b)), vy := addF b.vy (mulF p.2 (moveB b)), sp := addF b.sp (mulF (spinB b) (crossV rb p)) }
def bumpS (L : List Bd) (i k : Nat) (ra rb p : Int × Int) : List Bd := (L.modify i (awayB ra p)).modify k (ontoB rb p)
def velB (b : Bd) (r : Int × Int) : Int × Int := addS (b.vx, b.vy) (spunS b.sp r)
def speedS (L : List Bd) (i k : Nat) (ra rb n : Int × Int) : Int :=
 match L[i]?, L[k]? with
 | some a, some b => dotV (subS (velB b rb) (velB a ra)) n
 | _, _ => 0
def beginS (L : List Bd) (r : Ro) : List Bd := bumpS L r.a r.b r.ra r.rb (addS (scaS r.n r.N) (scaS (leftS r.n) r.T))
def rubT (L : List Bd) (r : Ro) : Int := bringF (addF r.T (negF (mulF r.gt (speedS L r.a r.b r.ra r.rb (leftS r.n))))) (negF (mulF r.N 2147483648)) (mulF r.N 2147483648)
def rubS (L : List Bd) (r : Ro) : List Bd := bumpS L r.a r.b r.ra r.rb (scaS (leftS r.n) (subF (rubT L r) r.T))
def pushN (L : List Bd) (r : Ro) : Int := max 0 (addF r.N (mulF r.gn (subF r.out (speedS L r.a r.b r.ra r.rb r.n))))
def pushS (L : List Bd) (r : Ro) : List Bd := bumpS L r.a r.b r.ra r.rb (scaS r.n (subF (pushN L r) r.N))
def pullS (L : List Bd) (t : Ti) : List Bd := bumpS L t.a t.b t.ra t.rb (scaS t.n (negF (mulF t.g (addF (speedS L t.a t.b t.ra t.rb t.n) t.off))))
def turnS (L : List Bd) (r : Ro) : List Bd × Ro :=
 let L1 := rubS L r
 let r1 : Ro := { r with T := rubT L r }
 (pushS L1 r1, { r1 with N := pushN L1 r1 })
def rowsS : List Bd → List Ro → List Bd × List Ro
 | L, [] => (L, [])
 | L, r :: R => ((rowsS (turnS L r).1 R).1, (turnS L r).2 :: (rowsS (turnS L r).1 R).2)
def tiesS (L : List Bd) (T : List Ti) : List Bd := T.foldl pullS L
def roundS (s : List Bd × List Ro) (T : List Ti) : List Bd × List Ro := rowsS (tiesS s.1 T) s.2
def roundsS (T : List Ti) : Nat → List Bd × List Ro → List Bd × List Ro
 | 0, s => s
 | k + 1, s => roundS (roundsS T k s) T
def limitB (b : Bd) : Bd := { b with vx := bringF b.vx (negF 17592186044416) 17592186044416, vy := bringF b.vy (negF 17592186044416) 17592186044416, sp := bringF b.sp (-1099511627776) 1099511627776 }
def solveS (L : List Bd) (R : List Ro) (T : List Ti) : List Bd × List Ro :=
 let s := roundsS T 8 (R.foldl beginS L, R)
 (s.1.map limitB, s.2)
def SameAt (b c : Bd) : Prop := c.id = b.id ∧ c.x = b.x ∧ c.y = b.y ∧ c.an = b.an ∧ c.de = b.de ∧ c.k = b.k ∧ c.r = b.r ∧ c.ao = b.ao ∧ c.n = b.n ∧ c.c = b.c ∧ c.f = b.f
theorem SameAt.rfl_ (b : Bd) : SameAt b b := ⟨rfl, rfl, rfl, rfl, rfl, rfl, rfl, rfl, rfl, rfl, rfl⟩
theorem SameAt.trans {a b c : Bd} (h : SameAt a b) (k : SameAt b c) : SameAt a c := by
 obtain ⟨h1, h2, h3, h4, h5, h6, h7, h8, h9, h10, h11⟩ := h
 obtain ⟨k1, k2, k3, k4, k5, k6, k7, k8, k9, k10, k11⟩ := k
 exact ⟨k1.trans h1, k2.trans h2, k3.trans h3, k4.trans h4, k5.trans h5, k6.trans h6, k7.trans h7, k8.trans h8, k9.trans h9, k10.trans h10, k11.trans h11⟩
theorem SameAt.area {a b : Bd} (h : SameAt a b) : areaB b = areaB a ∧ roundB b = roundB a := by
 obtain ⟨h1, h2, h3, h4, h5, h6, h7, h8, h9, h10, h11⟩ := h
 unfold areaB roundB
 rw [h6, h7, h9, h11]
 exact ⟨rfl, rfl⟩
theorem SameAt.mass {a b : Bd} (h : SameAt a b) : moveB b = moveB a ∧ spinB b = spinB a := by
 obtain ⟨e1, e2⟩ := h.area
 unfold moveB spinB
 rw [e1, e2, h.2.2.2.2.1]
 exact ⟨rfl, rfl⟩
def SameL (L M : List Bd) : Prop := M.length = L.length ∧ ∀ (i : Nat) b c, L[i]? = some b → M[i]? = some c → SameAt b c
theorem SameL.rfl_ (L : List Bd) : SameL L L := ⟨rfl, fun i b c h k => by rw [h] at k; rw [Option.some.inj k]; exact SameAt.rfl_ c⟩
theorem SameL.trans {L M N : List Bd} (h : SameL L M) (k : SameL M N) : SameL L N := ⟨k.1.trans h.1, fun i b d hb hd => by
 have hl := (List.getElem?_eq_some_iff.1 hb).1
 obtain ⟨c, hc⟩ : ∃ c, M[i]? = some c := ⟨_, List.getElem?_eq_getElem (by rw [h.1]; exact hl)⟩
 exact (h.2 i b c hb hc).trans (k.2 i c d hc hd)⟩
theorem modify_same (L : List Bd) (i : Nat) (f : Bd → Bd) (hf : ∀ b, SameAt b (f b)) : SameL L (L.modify i f) := by
 refine ⟨by simp, fun j b c hb hc => ?_⟩
 rw [List.getElem?_modify, hb] at hc
 simp only [Option.map_eq_map, Option.map_some, Option.some.injEq] at hc
 rw [← hc]
 split
 ·exact hf b
 ·exact SameAt.rfl_ b
theorem bump_same (L : List Bd) (i k : Nat) (ra rb p : Int × Int) : SameL L (bumpS L i k ra rb p) :=
 (modify_same L i (awayB ra p) fun b => ⟨rfl, rfl, rfl, rfl, rfl, rfl, rfl, rfl, rfl, rfl, rfl⟩).trans (modify_same _ k (ontoB rb p) fun b => ⟨rfl, rfl, rfl, rfl, rfl, rfl, rfl, rfl, rfl, rfl, rfl⟩)
theorem ties_same : ∀ (T : List Ti) (L : List Bd), SameL L (tiesS L T)
 | [], L => SameL.rfl_ L
 | t :: T, L => (bump_same L _ _ _ _ _).trans (ties_same T (pullS L t))
theorem turn_same (L : List Bd) (r : Ro) : SameL L (turnS L r).1 := (bump_same L _ _ _ _ _).trans (bump_same _ _ _ _ _ _)
theorem rows_same : ∀ (R : List Ro) (L : List Bd), SameL L (rowsS L R).1
 | [], L => SameL.rfl_ L
 | r :: R, L => (turn_same L r).trans (rows_same R (turnS L r).1)
theorem rounds_same (T : List Ti) : ∀ (k : Nat) (s : List Bd × List Ro), SameL s.1 (roundsS T k s).1
 | 0, s => SameL.rfl_ s.1
 | k + 1, s => (rounds_same T k s).trans ((ties_same T _).trans (rows_same _ _))
theorem begin_same : ∀ (R : List Ro) (L : List Bd), SameL L (R.foldl beginS L)
 | [], L => SameL.rfl_ L
 | r :: R, L => (bump_same L _ _ _ _ _).trans (begin_same R (beginS L r))
def SameR (r q : Ro) : Prop := q.a = r.a ∧ q.b = r.b ∧ q.key = r.key ∧ q.n = r.n ∧ q.ra = r.ra ∧ q.rb = r.rb ∧ q.gn = r.gn ∧ q.gt = r.gt ∧ q.out = r.out
theorem turn_row (L : List Bd) (r : Ro) : SameR r (turnS L r).2 ∧ 0 ≤ (turnS L r).2.N := ⟨⟨rfl, rfl, rfl, rfl, rfl, rfl, rfl, rfl, rfl⟩, by
 show 0 ≤ pushN _ _
 unfold pushN
 omega⟩
theorem rows_len : ∀ (R : List Ro) (L : List Bd), (rowsS L R).2.length = R.length
 | [], _ => rfl
 | r :: R, L => by show (_ :: _).length = _; rw [List.length_cons, List.length_cons, rows_len R]
def StillB (b : Bd) : Prop := b.de ≤ 0 ∧ b.vx = 0 ∧ b.vy = 0 ∧ b.sp = 0
def StillAt (L : List Bd) (j : Nat) : Prop := ∀ b, L[j]? = some b → StillB b
theorem clamp_eq {n m : Int} (hn : Rg n) (h0 : 0 ≤ m) (hm : Rg m) : max (min n m) (-m) = bringF n (negF m) m := by
 have e1 : cl n = n := cl_id hn.1
 have e2 : cl m = m := cl_id hm.1
 have e3 : cl (-m) = -m := cl_id (by have := hm.2; omega)
 unfold bringF negF
 rw [e1, e2, e3]
 split
 ·omega
 ·split <;> omega
theorem rows_same' : ∀ (R : List Ro) (L : List Bd) (i : Nat) (r q : Ro), R[i]? = some r → (rowsS L R).2[i]? = some q → SameR r q
 | [], _, i, r, q, h, _ => by simp at h
 | r0 :: R, L, 0, r, q, h, k => by
  have h : r0 = r := Option.some.inj h
  have k : (turnS L r0).2 = q := Option.some.inj k
  rw [← h, ← k]
  exact (turn_row L r0).1
 | r0 :: R, L, i + 1, r, q, h, k => rows_same' R (turnS L r0).1 i r q h k
theorem rounds_len (T : List Ti) : ∀ (k : Nat) (s : List Bd × List Ro), (roundsS T k s).2.length = s.2.length
 | 0, _ => rfl
 | k + 1, s => by
  show (rowsS (tiesS (roundsS T k s).1 T) (roundsS T k s).2).2.length = _
  rw [rows_len, rounds_len T k s]
theorem SameR.trans {a b c : Ro} (h : SameR a b) (k : SameR b c) : SameR a c := by
 obtain ⟨h1, h2, h3, h4, h5, h6, h7, h8, h9⟩ := h
 obtain ⟨k1, k2, k3, k4, k5, k6, k7, k8, k9⟩ := k
 exact ⟨k1.trans h1, k2.trans h2, k3.trans h3, k4.trans h4, k5.trans h5, k6.trans h6, k7.trans h7, k8.trans h8, k9.trans h9⟩
theorem rounds_row (T : List Ti) : ∀ (k : Nat) (s : List Bd × List Ro) (i : Nat) (r q : Ro), s.2[i]? = some r → (roundsS T k s).2[i]? = some q → SameR r q
 | 0, s, i, r, q, h, h2 => by
  have h2 : s.2[i]? = some q := h2
  rw [h] at h2
  rw [Option.some.inj h2]
  exact ⟨rfl, rfl, rfl, rfl, rfl, rfl, rfl, rfl, rfl⟩
 | k + 1, s, i, r, q, h, h2 => by
  have hl := (List.getElem?_eq_some_iff.1 h).1
  obtain ⟨m, hm⟩ : ∃ m, (roundsS T k s).2[i]? = some m := ⟨_, List.getElem?_eq_getElem (by rw [rounds_len]; exact hl)⟩
  exact (rounds_row T k s i r m h hm).trans (rows_same' _ _ i m q hm h2)
theorem modify_set {L : List Bd} {i : Nat} {a : Bd} (f : Bd → Bd) (h : L[i]? = some a) : L.modify i f = L.set i (f a) := by
 obtain ⟨hl, hv⟩ := List.getElem?_eq_some_iff.1 h
 refine List.ext_getElem? fun j => ?_
 rw [List.getElem?_modify, List.getElem?_set]
 by_cases hj : i = j
 ·subst hj
  rw [if_pos rfl, if_pos hl, h]
  simp
 ·rw [if_neg hj]
  cases L[j]? with
  | none => rfl
  | some c => simp [hj]
def giveS (a b : Bd) (ra rb n : Int × Int) : Int :=
 let g := addF (addF (addF (moveB a) (moveB b)) (mulF (spinB a) (mulF (crossV ra n) (crossV ra n)))) (mulF (spinB b) (mulF (crossV rb n) (crossV rb n)))
 if 0 < g then divF 4294967296 g else 0
def pushes (r : Ro) : Bool := !(decide (r.N = 0) && decide (r.T = 0))
def keptC (L : List Bd) (r : Ro) : Option Ct :=
 if pushes r then match L[r.a]?, L[r.b]? with
  | some a, some b => some ⟨a.id, b.id, r.key, r.N, r.T⟩
  | _, _ => none
 else none
def keepS (L : List Bd) (R : List Ro) : List Ct := R.filterMap (keptC L)
structure RowsP (L : List Bd) (R : List Ro) : Prop where
 all : ∀ r ∈ R, 0 ≤ r.key ∧ 0 ≤ r.N ∧ ∃ a b, L[r.a]? = some a ∧ L[r.b]? = some b ∧ a.id < b.id
 up : R.Pairwise fun r q => ∀ a b c d, L[r.a]? = some a → L[r.b]? = some b → L[q.a]? = some c → L[q.b]? = some d → LtC ⟨a.id, b.id, r.key, r.N, r.T⟩ ⟨c.id, d.id, q.key, q.N, q.T⟩
def VI (v : Int × Int) : Prop := I64 v.1 ∧ I64 v.2
structure RoI (r : Ro) : Prop where
 key : I64 r.key
 n : VI r.n
 ra : VI r.ra
 rb : VI r.rb
 gn : I64 r.gn
 gt : I64 r.gt
 out : I64 r.out
 N : I64 r.N
 T : I64 r.T
structure TiI (t : Ti) : Prop where
 n : VI t.n
 ra : VI t.ra
 rb : VI t.rb
 g : I64 t.g
 off : I64 t.off
theorem away_I {b : Bd} (h : BdI b) (ra p : Int × Int) : BdI (awayB ra p b) := ⟨h.id, h.x, h.y, i64_sub _ _, i64_sub _ _, h.an, i64_sub _ _, h.de, h.k, h.r, h.f⟩
theorem onto_I {b : Bd} (h : BdI b) (rb p : Int × Int) : BdI (ontoB rb p b) := ⟨h.id, h.x, h.y, i64_add _ _, i64_add _ _, h.an, i64_add _ _, h.de, h.k, h.r, h.f⟩
def LI (L : List Bd) : Prop := ∀ (j : Nat) b, L[j]? = some b → BdI b
theorem modify_I {L : List Bd} (h : LI L) (i : Nat) (f : Bd → Bd) (hf : ∀ b, BdI b → BdI (f b)) : LI (L.modify i f) := by
 intro j b hb
 rw [List.getElem?_modify] at hb
 cases hl : L[j]? with
 | none => rw [hl] at hb; simp at hb
 | some c =>
  rw [hl] at hb
  simp only [Option.map_eq_map, Option.map_some, Option.some.injEq] at hb
  rw [← hb]
  split
  ·exact hf c (h j c hl)
  ·exact h j c hl
theorem bump_I {L : List Bd} (h : LI L) (i k : Nat) (ra rb p : Int × Int) : LI (bumpS L i k ra rb p) :=
 modify_I (modify_I h i _ fun b hb => away_I hb ra p) k _ fun b hb => onto_I hb rb p
theorem ties_I : ∀ (T : List Ti) {L : List Bd}, LI L → LI (tiesS L T)
 | [], _, h => h
 | t :: T, _, h => ties_I T (bump_I h _ _ _ _ _)
theorem rub_I (L : List Bd) {r : Ro} (h : RoI r) : I64 (rubT L r) := i64_bring (i64_add _ _) (i64_neg (i64_mul _ _)) (i64_mul _ _)
theorem push_I (L : List Bd) (r : Ro) : I64 (pushN L r) ∧ 0 ≤ pushN L r := by
 have := i64_add r.N (mulF r.gn (subF r.out (speedS L r.a r.b r.ra r.rb r.n)))
 unfold pushN
 unfold I64 at *
 omega
theorem turn_I {L : List Bd} (h : LI L) {r : Ro} (k : RoI r) : LI (turnS L r).1 ∧ RoI (turnS L r).2 :=
 ⟨bump_I (bump_I h _ _ _ _ _) _ _ _ _ _, ⟨k.key, k.n, k.ra, k.rb, k.gn, k.gt, k.out, (push_I _ _).1, rub_I L k⟩⟩
theorem rows_I : ∀ (R : List Ro) {L : List Bd}, LI L → (∀ r ∈ R, RoI r) → LI (rowsS L R).1 ∧ ∀ r ∈ (rowsS L R).2, RoI r
 | [], _, h, k => ⟨h, k⟩
 | r :: R, L, h, k => by
  obtain ⟨h1, h2⟩ := turn_I h (k r (List.mem_cons_self ..))
  obtain ⟨h3, h4⟩ := rows_I R h1 fun q hq => k q (List.mem_cons_of_mem _ hq)
  refine ⟨h3, fun q hq => ?_⟩
  rcases List.mem_cons.1 hq with rfl | hq
  ·exact h2
  ·exact h4 q hq
theorem rounds_I (T : List Ti) : ∀ (k : Nat) {s : List Bd × List Ro}, LI s.1 → (∀ r ∈ s.2, RoI r) → LI (roundsS T k s).1 ∧ ∀ r ∈ (roundsS T k s).2, RoI r
 | 0, _, h, h2 => ⟨h, h2⟩
 | k + 1, _, h, h2 => by
  obtain ⟨h3, h4⟩ := rounds_I T k h h2
  exact rows_I _ (ties_I T h3) h4
theorem begin_I : ∀ (R : List Ro) {L : List Bd}, LI L → LI (R.foldl beginS L)
 | [], _, h => h
 | r :: R, _, h => begin_I R (bump_I h _ _ _ _ _)
def outS (d : Int) : Int := if subF d 67108864 ≤ 0 then 0 else min 17179869184 (mulF (partF 64 5) (subF d 67108864))
theorem out_I (d : Int) : I64 (outS d) ∧ 0 ≤ outS d := by
 unfold outS
 split
 ·unfold I64; omega
 ·rename_i h
  have h1 := rg_mul (partF 64 5) (subF d 67108864)
  have h2 := mul_nn (a := partF 64 5) (b := subF d 67108864) (rg_div _ _) (rg_sub _ _) (by decide) (by omega)
  unfold Rg at h1
  unfold I64
  omega
def rowS (i k : Nat) (a b : Bd) (n p : Int × Int) (key d N T : Int) : Ro :=
 let ra := subS p (a.x, a.y)
 let rb := subS p (b.x, b.y)
 ⟨i, k, key, n, ra, rb, giveS a b ra rb n, giveS a b ra rb (leftS n), outS d, N, T⟩
def offS (l m : Int) : Int := bringF (mulF (partF 64 5) (subF l m)) (-17179869184) 17179869184
theorem off_said (l m : Int) : max (min (mulF (partF 64 5) (subF l m)) 17179869184) (-17179869184) = offS l m := by
 have h := clamp_eq (n := mulF (partF 64 5) (subF l m)) (m := 17179869184) (rg_mul _ _) (by omega) (by unfold Rg; omega)
 rw [show negF 17179869184 = -17179869184 by decide] at h
 exact h
end Go.Proofs.YtjhcejmfiekjgaaGreat.Fx
/- Package solve, the first words: what one body gives, what two give. -/
namespace Go.Proofs.YtjhcejmfiekjgaaGreat.Fx
open Go.ChangeShapes Go.WideShapes Go.ChangeAt Go.RowKit
set_option linter.unusedVariables false
theorem yields_c (m i mv s rx ry nx ny r : Int) (w : World) (hs : I64 s) (h1 : I64 rx) (h2 : I64 ry) (h3 : I64 nx) (h4 : I64 ny)
  (er : mulF s (mulF (subF (mulF rx ny) (mulF ry nx)) (subF (mulF rx ny) (mulF ry nx))) = r) :
  Calls Tryz.prog 104 #[.agg #[.int .i64 m, .int .i64 i, .int .i64 mv, .int .i64 s], vecV rx ry, vecV nx ny] w fun e w' => e = .returned (.int .i64 r) ∧ Made w.heap.size w w' := by
 obtain ⟨A, eA⟩ : ∃ A, subF (mulF rx ny) (mulF ry nx) = A := ⟨_, rfl⟩
 have hA : I64 A := by rw [← eA]; exact i64_sub _ _
 obtain ⟨Q, eQ⟩ : ∃ Q, mulF A A = Q := ⟨_, rfl⟩
 have hQ : I64 Q := by rw [← eQ]; exact i64_mul _ _
 rw [eA, eQ] at er
 have EA := hid eA
 have EQ := hid eQ
 have ER := hid er
 clear eA eQ er
 go_enter Tryz.func104, Tryz.ntmps104
 go_wp2_with fail
 refine (vcross_is rx ry nx ny A _ h1 h2 h3 h4 EA.out).mono ?_
 rintro e w1 ⟨rfl, k1⟩
 have z := k1.reads (p := ⟨w.heap.size, 3, none⟩) (x := .int .i64 s) (by go_simp)
 go_wp2_with fail
 refine reg_made (by kernel_rfl) (by kernel_rfl) ?_
 intro T hT f hf
 have c := Class.reads hf z
 repeat (go_big_quiet_step ((first
   | (go_at_call 12; with_reducible exact hf.same (mul_is A A Q _ hA hA EQ.out))
   | (go_at_call 12; with_reducible exact hf.same (mul_is s Q r _ hs hQ ER.out)))))
 refine wpQuiet_nil ?_
 intro w2 g2
 have hb := hf.here g2
 have hw := hid (made_box (made_box (made_box (k1.then_ (hb.low k1.1.size)))))
 clear hb hf g2 c z k1
 go_wp2_with fail
 go_ret
 exact ⟨rfl, hw.out⟩
abbrev lnkV (pa pb : Value) (m1 i1 v1 s1 m2 i2 v2 s2 rax ray rbx rby : Int) : Value := .agg #[pa, pb, .int .i64 m1, .int .i64 i1, .int .i64 v1, .int .i64 s1, .int .i64 m2, .int .i64 i2, .int .i64 v2, .int .i64 s2, .int .i64 rax, .int .i64 ray, .int .i64 rbx, .int .i64 rby]
theorem speed_c (ga oa gb ob : Nat) (m1 i1 v1 s1 m2 i2 v2 s2 rax ray rbx rby nx ny : Int) (avx avy asp bvx bvy bsp px py ax ay qx qy bx by_ dx dy r : Int) (w : World)
  (h1 : I64 rax) (h2 : I64 ray) (h3 : I64 rbx) (h4 : I64 rby) (h5 : I64 nx) (h6 : I64 ny) (h7 : I64 avx) (h8 : I64 avy) (h9 : I64 asp) (h10 : I64 bvx) (h11 : I64 bvy) (h12 : I64 bsp)
  (cA3 : w.cell? ⟨ga, oa + 3, none⟩ = some (.int .i64 avx)) (cA4 : w.cell? ⟨ga, oa + 4, none⟩ = some (.int .i64 avy)) (cA6 : w.cell? ⟨ga, oa + 6, none⟩ = some (.int .i64 asp))
  (cB3 : w.cell? ⟨gb, ob + 3, none⟩ = some (.int .i64 bvx)) (cB4 : w.cell? ⟨gb, ob + 4, none⟩ = some (.int .i64 bvy)) (cB6 : w.cell? ⟨gb, ob + 6, none⟩ = some (.int .i64 bsp))
  (ep : Hid (mulF (negF ray) asp = px)) (ep' : Hid (mulF rax asp = py)) (ea : Hid (addF avx px = ax)) (ea' : Hid (addF avy py = ay))
  (eq : Hid (mulF (negF rby) bsp = qx)) (eq' : Hid (mulF rbx bsp = qy)) (eb : Hid (addF bvx qx = bx)) (eb' : Hid (addF bvy qy = by_))
  (ed : Hid (subF bx ax = dx)) (ed' : Hid (subF by_ ay = dy)) (er : Hid (addF (mulF dx nx) (mulF dy ny) = r)) :
  Calls Tryz.prog 86 #[lnkV (.pointer (some ⟨ga, oa, none⟩)) (.pointer (some ⟨gb, ob, none⟩)) m1 i1 v1 s1 m2 i2 v2 s2 rax ray rbx rby, vecV nx ny] w fun e w' => e = .returned (.int .i64 r) ∧ Made w.heap.size w w' := by
 have jp : I64 px := by rw [← ep.out]; exact i64_mul _ _
 have jp' : I64 py := by rw [← ep'.out]; exact i64_mul _ _
 have jq : I64 qx := by rw [← eq.out]; exact i64_mul _ _
 have jq' : I64 qy := by rw [← eq'.out]; exact i64_mul _ _
 have ja : I64 ax := by rw [← ea.out]; exact i64_add _ _
 have ja' : I64 ay := by rw [← ea'.out]; exact i64_add _ _
 have jb : I64 bx := by rw [← eb.out]; exact i64_add _ _
 have jb' : I64 by_ := by rw [← eb'.out]; exact i64_add _ _
 have jd : I64 dx := by rw [← ed.out]; exact i64_sub _ _
 have jd' : I64 dy := by rw [← ed'.out]; exact i64_sub _ _
 have la := World.block_lt_of_cell? _ _ cA3
 have lb := World.block_lt_of_cell? _ _ cB3
 simp only at la lb
 go_enter Tryz.func86, Tryz.ntmps86
 go_upto_region 1 with fail
 refine reg_float1 14 40 5 26 #[.int .i64 0, .int .i64 0] _ (by kernel_rfl) (by kernel_rfl) (by kernel_rfl) rfl rfl alc_V ?_
 apply Exists.intro
 refine ⟨?h3, ?h4⟩
 case h3 =>
  intro T hT f hf
  have p0 := Class.reads hf (p := ⟨w.heap.size, 0, none⟩) (u := .pointer (some ⟨ga, oa, none⟩)) (by go_simp)
  have p1 := Class.reads hf (p := ⟨w.heap.size, 10, none⟩) (u := .int .i64 rax) (by go_simp)
  have p2 := Class.reads hf (p := ⟨w.heap.size, 11, none⟩) (u := .int .i64 ray) (by go_simp)
  have q3 := Class.reads hf (p := ⟨ga, oa + 3, none⟩) (u := .int .i64 avx) (by go_simp)
  have q4 := Class.reads hf (p := ⟨ga, oa + 4, none⟩) (u := .int .i64 avy) (by go_simp)
  have q6 := Class.reads hf (p := ⟨ga, oa + 6, none⟩) (u := .int .i64 asp) (by go_simp)
  simp only [List.take_succ_cons, List.take_zero]
  repeat (go_big_quiet_step ((first
   | (go_at_call 122; with_reducible exact hf.made (vspun_is asp rax ray px py _ h9 h1 h2 ep.out ep'.out))
   | (go_at_call 10; with_reducible exact hf.made (vadd_is avx avy px py ax ay _ h7 h8 jp jp' ea.out ea'.out)))))
  exact wpQuiet_nil rfl
 intro g v k hg hh
 have hh0 := hh.at_ 0
 have hh1 := hh.at_ 1
 simp at hh0 hh1
 have hhf : ∀ i, v.frozen? ⟨g, i, none⟩ = false := hh.free
 have y1 := k.reads (p := ⟨w.heap.size, 1, none⟩) (x := .pointer (some ⟨gb, ob, none⟩)) (by go_simp)
 have y12 := k.reads (p := ⟨w.heap.size, 12, none⟩) (x := .int .i64 rbx) (by go_simp)
 have y13 := k.reads (p := ⟨w.heap.size, 13, none⟩) (x := .int .i64 rby) (by go_simp)
 have z0 := k.reads (p := ⟨w.heap.size + 1, 0, none⟩) (x := .int .i64 nx) (by go_simp)
 have z1 := k.reads (p := ⟨w.heap.size + 1, 1, none⟩) (x := .int .i64 ny) (by go_simp)
 have b3 := k.reads (p := ⟨gb, ob + 3, none⟩) (x := .int .i64 bvx) (by go_simp)
 have b4 := k.reads (p := ⟨gb, ob + 4, none⟩) (x := .int .i64 bvy) (by go_simp)
 have b6 := k.reads (p := ⟨gb, ob + 6, none⟩) (x := .int .i64 bsp) (by go_simp)
 have KM := hid (made_box (made_box k))
 have hgs : w.heap.size + 1 < g := by have := hg; simp at this; omega
 clear k hg
 simp only [List.drop_succ_cons, List.drop_zero]
 go_upto_region 2 with fail
 obtain ⟨Wa, eW⟩ : ∃ W, W = (v.setCell ⟨g, 0, none⟩ (.int .i64 ax)).setCell ⟨g, 1, none⟩ (.int .i64 ay) := ⟨_, rfl⟩
 have hG : Has Wa g 26 #[.int .i64 ax, .int .i64 ay] := by rw [eW]; simpa using (hh.put 0 (.int .i64 ax)).put 1 (.int .i64 ay)
 have ne : ∀ j, j ≤ w.heap.size + 1 → j ≠ g := fun j hj => by omega
 have y1 : Wa.cell? ⟨w.heap.size, 1, none⟩ = some (.pointer (some ⟨gb, ob, none⟩)) := by rw [eW]; exact cell_else (ne _ (by simp)) (cell_else (ne _ (by simp)) y1)
 have y12 : Wa.cell? ⟨w.heap.size, 12, none⟩ = some (.int .i64 rbx) := by rw [eW]; exact cell_else (ne _ (by simp)) (cell_else (ne _ (by simp)) y12)
 have y13 : Wa.cell? ⟨w.heap.size, 13, none⟩ = some (.int .i64 rby) := by rw [eW]; exact cell_else (ne _ (by simp)) (cell_else (ne _ (by simp)) y13)
 have z0 : Wa.cell? ⟨w.heap.size + 1, 0, none⟩ = some (.int .i64 nx) := by rw [eW]; exact cell_else (ne _ (by simp)) (cell_else (ne _ (by simp)) z0)
 have z1 : Wa.cell? ⟨w.heap.size + 1, 1, none⟩ = some (.int .i64 ny) := by rw [eW]; exact cell_else (ne _ (by simp)) (cell_else (ne _ (by simp)) z1)
 have b3 : Wa.cell? ⟨gb, ob + 3, none⟩ = some (.int .i64 bvx) := by rw [eW]; exact cell_else (ne _ (by simp; omega)) (cell_else (ne _ (by simp; omega)) b3)
 have b4 : Wa.cell? ⟨gb, ob + 4, none⟩ = some (.int .i64 bvy) := by rw [eW]; exact cell_else (ne _ (by simp; omega)) (cell_else (ne _ (by simp; omega)) b4)
 have b6 : Wa.cell? ⟨gb, ob + 6, none⟩ = some (.int .i64 bsp) := by rw [eW]; exact cell_else (ne _ (by simp; omega)) (cell_else (ne _ (by simp; omega)) b6)
 have a0 := hG.at_ 0
 have a1 := hG.at_ 1
 simp at a0 a1
 have lgW : g < Wa.heap.size := hG.here
 have MW : Hid (Made w.heap.size w Wa) := by unfold Hid; rw [eW]; exact (KM.out.put (by simp; try omega) _).put (by simp; try omega) _
 rw [← eW]
 clear eW hh0 hh1 hhf hh KM hG
 refine reg_float1 14 40 6 26 #[.int .i64 0, .int .i64 0] _ (by kernel_rfl) (by kernel_rfl) (by kernel_rfl) rfl rfl alc_V ?_
 apply Exists.intro
 refine ⟨?h5, ?h6⟩
 case h5 =>
  intro T hT f hf
  have y1 := Class.reads hf y1
  have y12 := Class.reads hf y12
  have y13 := Class.reads hf y13
  have b3 := Class.reads hf b3
  have b4 := Class.reads hf b4
  have b6 := Class.reads hf b6
  simp only [List.take_succ_cons, List.take_zero]
  repeat (go_big_quiet_step ((first
   | (go_at_call 122; with_reducible exact hf.made (vspun_is bsp rbx rby qx qy _ h12 h3 h4 eq.out eq'.out))
   | (go_at_call 10; with_reducible exact hf.made (vadd_is bvx bvy qx qy bx by_ _ h10 h11 jq jq' eb.out eb'.out)))))
  exact wpQuiet_nil rfl
 intro g2 v2 k2 hg2 hh2
 have hh0 := hh2.at_ 0
 have hh1 := hh2.at_ 1
 simp at hh0 hh1
 have hhf : ∀ i, v2.frozen? ⟨g2, i, none⟩ = false := hh2.free
 have a0 := k2.reads a0
 have a1 := k2.reads a1
 have z0 := k2.reads z0
 have z1 := k2.reads z1
 have M2 : Hid (Made w.heap.size w v2) := MW.out.then_ (k2.low MW.out.1.size)
 have l2 : w.heap.size + 1 < g2 := by omega
 have l3 : g < g2 := by omega
 clear k2 MW y1 y12 y13 b3 b4 b6
 simp only [List.drop_succ_cons, List.drop_zero]
 go_upto_region 3 with fail
 obtain ⟨Wb, eW⟩ : ∃ W, W = (v2.setCell ⟨g2, 0, none⟩ (.int .i64 bx)).setCell ⟨g2, 1, none⟩ (.int .i64 by_) := ⟨_, rfl⟩
 have hG : Has Wb g2 26 #[.int .i64 bx, .int .i64 by_] := by rw [eW]; simpa using (hh2.put 0 (.int .i64 bx)).put 1 (.int .i64 by_)
 have z0 : Wb.cell? ⟨w.heap.size + 1, 0, none⟩ = some (.int .i64 nx) := by rw [eW]; exact cell_else (by simp; omega) (cell_else (by simp; omega) z0)
 have z1 : Wb.cell? ⟨w.heap.size + 1, 1, none⟩ = some (.int .i64 ny) := by rw [eW]; exact cell_else (by simp; omega) (cell_else (by simp; omega) z1)
 have a0 : Wb.cell? ⟨g, 0, none⟩ = some (.int .i64 ax) := by rw [eW]; exact cell_else (by simp; omega) (cell_else (by simp; omega) a0)
 have a1 : Wb.cell? ⟨g, 1, none⟩ = some (.int .i64 ay) := by rw [eW]; exact cell_else (by simp; omega) (cell_else (by simp; omega) a1)
 have c0 := hG.at_ 0
 have c1 := hG.at_ 1
 simp at c0 c1
 have MW : Hid (Made w.heap.size w Wb) := by unfold Hid; rw [eW]; exact (M2.out.put (by simp; try omega) _).put (by simp; try omega) _
 rw [← eW]
 clear eW hh0 hh1 hhf hh2 M2 hG
 refine reg_made (by kernel_rfl) (by kernel_rfl) ?_
 intro T hT f hf
 have z0 := Class.reads hf z0
 have z1 := Class.reads hf z1
 have a0 := Class.reads hf a0
 have a1 := Class.reads hf a1
 have c0 := Class.reads hf c0
 have c1 := Class.reads hf c1
 repeat (go_big_quiet_step ((first
  | (go_at_call 9; with_reducible exact hf.made (vsub_is bx by_ ax ay dx dy _ jb jb' ja ja' ed.out ed'.out))
  | (go_at_call 36; with_reducible exact hf.made (vdot_is dx dy nx ny r _ jd jd' h5 h6 er.out)))))
 refine wpQuiet_nil ?_
 intro w9 g9
 have hb := hf.here g9
 have M9 : Hid (Made w.heap.size w w9) := MW.out.then_ (hb.low MW.out.1.size)
 clear hb hf g9 z0 z1 a0 a1 c0 c1
 go_wp2_with fail
 go_ret
 exact ⟨rfl, M9.out⟩
end Go.Proofs.YtjhcejmfiekjgaaGreat.Fx
/- Package solve: a push (link.apply), on a row of bodies of one's own. -/
namespace Go.Proofs.YtjhcejmfiekjgaaGreat.Fx
open Go.ChangeShapes Go.WideShapes Go.ChangeAt Go.RowKit
set_option linter.unusedVariables false
section
variable {α : Type} {enc : α → List Value} {k : Nat} {w v : World} {g n : Nat} {t : TypeId} {l : List α}
theorem RowL.put1 (hk : ∀ x, (enc x).length = k) (h : RowL enc k w g t n l) {i j : Nat} {x x' : α} {u : Value} (hx : l[i]? = some x) (hj : j < k) (e : enc x' = (enc x).set j u) :
  RowL enc k (w.setCell ⟨g, i * k + j, none⟩ u) g t n (l.set i x') := by
 obtain ⟨h0, A, hA, hs, h⟩ := h
 have hi : i < n := by rw [← h0]; exact (List.getElem?_eq_some_iff.1 hx).1
 have hbd : i * k + k ≤ n * k := by
  have := Nat.mul_le_mul_right k (show i + 1 ≤ n from hi)
  rwa [Nat.add_mul, Nat.one_mul] at this
 refine ⟨by rw [List.length_set]; exact h0, A.setIfInBounds (i * k + j) u, hA.put _ _, by simpa using hs, fun a y hy b v hv => ?_⟩
 have hb : b < k := by rw [← hk y]; exact (List.getElem?_eq_some_iff.1 hv).1
 by_cases e2 : i = a
 ·subst e2
  rw [List.getElem?_set_self (by rw [h0]; exact hi)] at hy
  cases hy
  rw [e] at hv
  by_cases e3 : j = b
  ·subst e3
   rw [List.getElem?_set_self (by rw [hk]; exact hj)] at hv
   rw [Array.getElem?_setIfInBounds_self_of_lt (by omega)]
   exact hv
  ·rw [List.getElem?_set_ne e3] at hv
   rw [Array.getElem?_setIfInBounds_ne (by omega)]
   exact h i x hx b v hv
 ·rw [List.getElem?_set_ne e2] at hy
  rw [Array.getElem?_setIfInBounds_ne ?_]
  ·exact h a y hy b v hv
  ·rcases Nat.lt_or_gt_of_ne e2 with hh | hh
   ·have := Nat.mul_le_mul_right k (show i + 1 ≤ a from hh)
    rw [Nat.add_mul, Nat.one_mul] at this
    omega
   ·have := Nat.mul_le_mul_right k (show a + 1 ≤ i from hh)
    rw [Nat.add_mul, Nat.one_mul] at this
    omega
theorem RowL.at1 (hk : ∀ x, (enc x).length = k) (h : RowL enc k w g t n l) {i j : Nat} {x : α} {u : Value} (hx : l[i]? = some x) (hu : (enc x)[j]? = some u) : w.cell? ⟨g, i * k + j, none⟩ = some u := by
 obtain ⟨_, A, hA, _, h⟩ := h
 rw [hA.at_]
 exact h i x hx j u hu
end
theorem apply_c {t : TypeId} {g n i k : Nat} {L : List Bd} {a b : Bd} (m1 i1 v1 s1 m2 i2 v2 s2 rax ray rbx rby px py : Int) (ux uy ax ay cc dd asp qx qy bx by_ ee ff bsp : Int) (w : World)
  (hL : RowL encB 11 w g t n L) (hi : L[i]? = some a) (hk : (L.set i { a with vx := ax, vy := ay, sp := asp })[k]? = some b) (hA : BdI a) (hB : BdI b)
  (h1 : I64 rax) (h2 : I64 ray) (h3 : I64 rbx) (h4 : I64 rby) (h5 : I64 px) (h6 : I64 py) (h7 : I64 v1) (h8 : I64 s1) (h9 : I64 v2) (h10 : I64 s2)
  (eu : Hid (mulF px v1 = ux)) (eu' : Hid (mulF py v1 = uy)) (ea : Hid (subF a.vx ux = ax)) (ea' : Hid (subF a.vy uy = ay))
  (ec : Hid (subF (mulF rax py) (mulF ray px) = cc)) (ed : Hid (mulF s1 cc = dd)) (es : Hid (subF a.sp dd = asp))
  (eq : Hid (mulF px v2 = qx)) (eq' : Hid (mulF py v2 = qy)) (eb : Hid (addF b.vx qx = bx)) (eb' : Hid (addF b.vy qy = by_))
  (ee_ : Hid (subF (mulF rbx py) (mulF rby px) = ee)) (ef : Hid (mulF s2 ee = ff)) (et : Hid (addF b.sp ff = bsp)) :
  Calls Tryz.prog 84 #[lnkV (.pointer (some ⟨g, i * 11, none⟩)) (.pointer (some ⟨g, k * 11, none⟩)) m1 i1 v1 s1 m2 i2 v2 s2 rax ray rbx rby, vecV px py] w fun e v => e = .returned (.tuple #[]) ∧ But (fun x => x = g) w v ∧
   RowL encB 11 v g t n ((L.set i { a with vx := ax, vy := ay, sp := asp }).set k { b with vx := bx, vy := by_, sp := bsp }) := by
 have ju : I64 ux := by rw [← eu.out]; exact i64_mul _ _
 have ju' : I64 uy := by rw [← eu'.out]; exact i64_mul _ _
 have jc : I64 cc := by rw [← ec.out]; exact i64_sub _ _
 have jd : I64 dd := by rw [← ed.out]; exact i64_mul _ _
 have jq : I64 qx := by rw [← eq.out]; exact i64_mul _ _
 have jq' : I64 qy := by rw [← eq'.out]; exact i64_mul _ _
 have je : I64 ee := by rw [← ee_.out]; exact i64_sub _ _
 have jf : I64 ff := by rw [← ef.out]; exact i64_mul _ _
 have lg := hL.here
 obtain ⟨oa, hoa⟩ : ∃ o, i * 11 = o := ⟨_, rfl⟩
 obtain ⟨ob, hob⟩ : ∃ o, k * 11 = o := ⟨_, rfl⟩
 have c3 : w.cell? ⟨g, oa + 3, none⟩ = some (.int .i64 a.vx) := by rw [← hoa]; exact hL.at1 encB_len hi rfl
 have c4 : w.cell? ⟨g, oa + 4, none⟩ = some (.int .i64 a.vy) := by rw [← hoa]; exact hL.at1 encB_len hi rfl
 have hfr : ∀ o, w.frozen? ⟨g, o, none⟩ = false := hL.free
 have iv := hA.vx
 have iv' := hA.vy
 have HL := hid hL
 rw [hoa, hob]
 have HO := hid hoa
 have HO' := hid hob
 clear hoa hob hL
 go_enter Tryz.func84, Tryz.ntmps84
 go_upto_region 1 with fail
 refine reg_made_tail 15 (by kernel_rfl) (by kernel_rfl) ?_
 intro T hT f hf
 have p0 := Class.reads hf (p := ⟨w.heap.size, 0, none⟩) (u := .pointer (some ⟨g, oa, none⟩)) (by go_simp)
 have p4 := Class.reads hf (p := ⟨w.heap.size, 4, none⟩) (u := .int .i64 v1) (by go_simp)
 have n0 := Class.reads hf (p := ⟨w.heap.size + 1, 0, none⟩) (u := .int .i64 px) (by go_simp)
 have n1 := Class.reads hf (p := ⟨w.heap.size + 1, 1, none⟩) (u := .int .i64 py) (by go_simp)
 have q3 := Class.reads hf (p := ⟨g, oa + 3, none⟩) (u := .int .i64 a.vx) (by go_simp)
 have q4 := Class.reads hf (p := ⟨g, oa + 4, none⟩) (u := .int .i64 a.vy) (by go_simp)
 simp only [List.take_succ_cons, List.take_zero, List.drop_succ_cons, List.drop_zero]
 repeat (go_big_quiet_step ((first
  | (go_at_call 85; with_reducible exact hf.made (vscale_is px py v1 ux uy _ h5 h6 h7 eu.out eu'.out))
  | (go_at_call 9; with_reducible exact hf.made (vsub_is a.vx a.vy ux uy ax ay _ iv iv' ju ju' ea.out ea'.out)))))
 refine wpQuiet_nil ?_
 intro w1 g1
 have hb := hf.here g1
 have x0 := hb.reads (p := ⟨w.heap.size, 0, none⟩) (x := .pointer (some ⟨g, oa, none⟩)) (by go_simp)
 have x1 := hb.reads (p := ⟨w.heap.size, 1, none⟩) (x := .pointer (some ⟨g, ob, none⟩)) (by go_simp)
 have x5 := hb.reads (p := ⟨w.heap.size, 5, none⟩) (x := .int .i64 s1) (by go_simp)
 have x8 := hb.reads (p := ⟨w.heap.size, 8, none⟩) (x := .int .i64 v2) (by go_simp)
 have x9 := hb.reads (p := ⟨w.heap.size, 9, none⟩) (x := .int .i64 s2) (by go_simp)
 have x10 := hb.reads (p := ⟨w.heap.size, 10, none⟩) (x := .int .i64 rax) (by go_simp)
 have x11 := hb.reads (p := ⟨w.heap.size, 11, none⟩) (x := .int .i64 ray) (by go_simp)
 have x12 := hb.reads (p := ⟨w.heap.size, 12, none⟩) (x := .int .i64 rbx) (by go_simp)
 have x13 := hb.reads (p := ⟨w.heap.size, 13, none⟩) (x := .int .i64 rby) (by go_simp)
 have z0 := hb.reads (p := ⟨w.heap.size + 1, 0, none⟩) (x := .int .i64 px) (by go_simp)
 have z1 := hb.reads (p := ⟨w.heap.size + 1, 1, none⟩) (x := .int .i64 py) (by go_simp)
 have KM := hid (made_box (made_box hb))
 have c3 := KM.out.reads c3
 have c4 := KM.out.reads c4
 have hfr1 : ∀ o, w1.frozen? ⟨g, o, none⟩ = false := fun o => (KM.out.2 _).trans (hfr o)
 clear hb hf g1 p0 p4 n0 n1 q3 q4
 go_upto_region 2 with fail
 /- region 1 is done -/
 obtain ⟨Wa, eW⟩ : ∃ W, W = (w1.setCell ⟨g, oa + 3, none⟩ (.int .i64 ax)).setCell ⟨g, oa + 3 + 1, none⟩ (.int .i64 ay) := ⟨_, rfl⟩
 have L1 : Hid (RowL encB 11 Wa g t n (L.set i { a with vx := ax, vy := ay })) := by
  have r1 := (HL.out.stays KM.out lg).put1 encB_len (j := 3) (x' := { a with vx := ax }) (u := .int .i64 ax) hi (by omega) rfl
  have r2 := r1.put1 encB_len (i := i) (j := 4) (x := { a with vx := ax }) (x' := { a with vx := ax, vy := ay }) (u := .int .i64 ay) (List.getElem?_set_self (List.getElem?_eq_some_iff.1 hi).1) (by omega) rfl
  rw [List.set_set] at r2
  unfold Hid
  rw [eW, ← HO.out]
  exact r2
 have BW : Hid (But (fun x => x = g) w Wa) := by unfold Hid; rw [eW]; exact ((Made.but (X := fun x => x = g) KM.out).put (p := ⟨g, oa + 3, none⟩) (.inl rfl) _).put (p := ⟨g, oa + 3 + 1, none⟩) (.inl rfl) _
 have x0 : Wa.cell? ⟨w.heap.size, 0, none⟩ = some (.pointer (some ⟨g, oa, none⟩)) := by rw [eW]; exact cell_else (by simp; omega) (cell_else (by simp; omega) x0)
 have x1 : Wa.cell? ⟨w.heap.size, 1, none⟩ = some (.pointer (some ⟨g, ob, none⟩)) := by rw [eW]; exact cell_else (by simp; omega) (cell_else (by simp; omega) x1)
 have x5 : Wa.cell? ⟨w.heap.size, 5, none⟩ = some (.int .i64 s1) := by rw [eW]; exact cell_else (by simp; omega) (cell_else (by simp; omega) x5)
 have x8 : Wa.cell? ⟨w.heap.size, 8, none⟩ = some (.int .i64 v2) := by rw [eW]; exact cell_else (by simp; omega) (cell_else (by simp; omega) x8)
 have x9 : Wa.cell? ⟨w.heap.size, 9, none⟩ = some (.int .i64 s2) := by rw [eW]; exact cell_else (by simp; omega) (cell_else (by simp; omega) x9)
 have x10 : Wa.cell? ⟨w.heap.size, 10, none⟩ = some (.int .i64 rax) := by rw [eW]; exact cell_else (by simp; omega) (cell_else (by simp; omega) x10)
 have x11 : Wa.cell? ⟨w.heap.size, 11, none⟩ = some (.int .i64 ray) := by rw [eW]; exact cell_else (by simp; omega) (cell_else (by simp; omega) x11)
 have x12 : Wa.cell? ⟨w.heap.size, 12, none⟩ = some (.int .i64 rbx) := by rw [eW]; exact cell_else (by simp; omega) (cell_else (by simp; omega) x12)
 have x13 : Wa.cell? ⟨w.heap.size, 13, none⟩ = some (.int .i64 rby) := by rw [eW]; exact cell_else (by simp; omega) (cell_else (by simp; omega) x13)
 have z0 : Wa.cell? ⟨w.heap.size + 1, 0, none⟩ = some (.int .i64 px) := by rw [eW]; exact cell_else (by simp; omega) (cell_else (by simp; omega) z0)
 have z1 : Wa.cell? ⟨w.heap.size + 1, 1, none⟩ = some (.int .i64 py) := by rw [eW]; exact cell_else (by simp; omega) (cell_else (by simp; omega) z1)
 have c6 : Wa.cell? ⟨g, oa + 6, none⟩ = some (.int .i64 a.sp) := by rw [← HO.out]; exact L1.out.at1 (x := { a with vx := ax, vy := ay }) encB_len (List.getElem?_set_self (List.getElem?_eq_some_iff.1 hi).1) rfl
 have hfrA : ∀ o, Wa.frozen? ⟨g, o, none⟩ = false := L1.out.free
 have iu := hA.sp
 rw [← eW]
 clear eW c3 c4 hfr1 KM HL iv iv'
 refine reg_made_tail 18 (by kernel_rfl) (by kernel_rfl) ?_
 intro T hT f hf
 have x0' := Class.reads hf x0
 have x5' := Class.reads hf x5
 have x10' := Class.reads hf x10
 have x11' := Class.reads hf x11
 have z0' := Class.reads hf z0
 have z1' := Class.reads hf z1
 have c6' := Class.reads hf c6
 simp only [List.take_succ_cons, List.take_zero, List.drop_succ_cons, List.drop_zero]
 repeat (go_big_quiet_step ((first
  | (go_at_call 38; with_reducible exact hf.made (vcross_is rax ray px py cc _ h1 h2 h5 h6 ec.out))
  | (go_at_call 12; with_reducible exact hf.same (mul_is s1 cc dd _ h8 jc ed.out))
  | (go_at_call 14; with_reducible exact hf.same (sub_is a.sp dd asp _ iu jd es.out)))))
 refine wpQuiet_nil ?_
 intro w2 g2
 have hb := hf.here g2
 have x1 := hb.reads x1
 have x8 := hb.reads x8
 have x9 := hb.reads x9
 have x12 := hb.reads x12
 have x13 := hb.reads x13
 have z0 := hb.reads z0
 have z1 := hb.reads z1
 have c6 := hb.reads c6
 have lsA := BW.out.size
 have KM := hid hb
 have hfr1 : ∀ o, w2.frozen? ⟨g, o, none⟩ = false := fun o => (hb.2 _).trans (hfrA o)
 clear hb hf g2 hfrA x0 x5 x10 x11 x0' x5' x10' x11' z0' z1' c6'
 go_upto_region 3 with fail
 obtain ⟨Wb, eW⟩ : ∃ W, W = w2.setCell ⟨g, oa + 6, none⟩ (.int .i64 asp) := ⟨_, rfl⟩
 have L2 : Hid (RowL encB 11 Wb g t n (L.set i { a with vx := ax, vy := ay, sp := asp })) := by
  have r1 := (L1.out.stays KM.out L1.out.here).put1 encB_len (i := i) (j := 6) (x := { a with vx := ax, vy := ay }) (x' := { a with vx := ax, vy := ay, sp := asp }) (u := .int .i64 asp) (List.getElem?_set_self (List.getElem?_eq_some_iff.1 hi).1) (by omega) rfl
  rw [List.set_set] at r1
  unfold Hid
  rw [eW, ← HO.out]
  exact r1
 have BW2 : Hid (But (fun x => x = g) w Wb) := by unfold Hid; rw [eW]; exact (BW.out.then_ KM.out.but).put (p := ⟨g, oa + 6, none⟩) (.inl rfl) _
 have x1 : Wb.cell? ⟨w.heap.size, 1, none⟩ = some (.pointer (some ⟨g, ob, none⟩)) := by rw [eW]; exact cell_else (by simp; omega) x1
 have x8 : Wb.cell? ⟨w.heap.size, 8, none⟩ = some (.int .i64 v2) := by rw [eW]; exact cell_else (by simp; omega) x8
 have x9 : Wb.cell? ⟨w.heap.size, 9, none⟩ = some (.int .i64 s2) := by rw [eW]; exact cell_else (by simp; omega) x9
 have x12 : Wb.cell? ⟨w.heap.size, 12, none⟩ = some (.int .i64 rbx) := by rw [eW]; exact cell_else (by simp; omega) x12
 have x13 : Wb.cell? ⟨w.heap.size, 13, none⟩ = some (.int .i64 rby) := by rw [eW]; exact cell_else (by simp; omega) x13
 have z0 : Wb.cell? ⟨w.heap.size + 1, 0, none⟩ = some (.int .i64 px) := by rw [eW]; exact cell_else (by simp; omega) z0
 have z1 : Wb.cell? ⟨w.heap.size + 1, 1, none⟩ = some (.int .i64 py) := by rw [eW]; exact cell_else (by simp; omega) z1
 have d3 : Wb.cell? ⟨g, ob + 3, none⟩ = some (.int .i64 b.vx) := by rw [← HO'.out]; exact L2.out.at1 encB_len hk rfl
 have d4 : Wb.cell? ⟨g, ob + 4, none⟩ = some (.int .i64 b.vy) := by rw [← HO'.out]; exact L2.out.at1 encB_len hk rfl
 have hfrA : ∀ o, Wb.frozen? ⟨g, o, none⟩ = false := L2.out.free
 have iv := hB.vx
 have iv' := hB.vy
 rw [← eW]
 clear eW c6 hfr1 KM L1 BW iu lsA
 refine reg_made_tail 15 (by kernel_rfl) (by kernel_rfl) ?_
 intro T hT f hf
 have x1' := Class.reads hf x1
 have x8' := Class.reads hf x8
 have z0' := Class.reads hf z0
 have z1' := Class.reads hf z1
 have d3' := Class.reads hf d3
 have d4' := Class.reads hf d4
 simp only [List.take_succ_cons, List.take_zero, List.drop_succ_cons, List.drop_zero]
 repeat (go_big_quiet_step ((first
  | (go_at_call 85; with_reducible exact hf.made (vscale_is px py v2 qx qy _ h5 h6 h9 eq.out eq'.out))
  | (go_at_call 10; with_reducible exact hf.made (vadd_is b.vx b.vy qx qy bx by_ _ iv iv' jq jq' eb.out eb'.out)))))
 refine wpQuiet_nil ?_
 intro w3 g3
 have hb := hf.here g3
 have x1 := hb.reads x1
 have x9 := hb.reads x9
 have x12 := hb.reads x12
 have x13 := hb.reads x13
 have z0 := hb.reads z0
 have z1 := hb.reads z1
 have d3 := hb.reads d3
 have d4 := hb.reads d4
 have lsA := BW2.out.size
 have KM := hid hb
 have hfr1 : ∀ o, w3.frozen? ⟨g, o, none⟩ = false := fun o => (hb.2 _).trans (hfrA o)
 clear hb hf g3 hfrA x8 x1' x8' z0' z1' d3' d4'
 go_upto_region 4 with fail
 obtain ⟨Wc, eW⟩ : ∃ W, W = (w3.setCell ⟨g, ob + 3, none⟩ (.int .i64 bx)).setCell ⟨g, ob + 3 + 1, none⟩ (.int .i64 by_) := ⟨_, rfl⟩
 have hkl := (List.getElem?_eq_some_iff.1 hk).1
 have L3 : Hid (RowL encB 11 Wc g t n ((L.set i { a with vx := ax, vy := ay, sp := asp }).set k { b with vx := bx, vy := by_ })) := by
  have r1 := (L2.out.stays KM.out L2.out.here).put1 encB_len (j := 3) (x' := { b with vx := bx }) (u := .int .i64 bx) hk (by omega) rfl
  have r2 := r1.put1 encB_len (i := k) (j := 4) (x := { b with vx := bx }) (x' := { b with vx := bx, vy := by_ }) (u := .int .i64 by_) (List.getElem?_set_self hkl) (by omega) rfl
  rw [List.set_set] at r2
  unfold Hid
  rw [eW, ← HO'.out]
  exact r2
 have BW3 : Hid (But (fun x => x = g) w Wc) := by unfold Hid; rw [eW]; exact ((BW2.out.then_ KM.out.but).put (p := ⟨g, ob + 3, none⟩) (.inl rfl) _).put (p := ⟨g, ob + 3 + 1, none⟩) (.inl rfl) _
 have x1 : Wc.cell? ⟨w.heap.size, 1, none⟩ = some (.pointer (some ⟨g, ob, none⟩)) := by rw [eW]; exact cell_else (by simp; omega) (cell_else (by simp; omega) x1)
 have x9 : Wc.cell? ⟨w.heap.size, 9, none⟩ = some (.int .i64 s2) := by rw [eW]; exact cell_else (by simp; omega) (cell_else (by simp; omega) x9)
 have x12 : Wc.cell? ⟨w.heap.size, 12, none⟩ = some (.int .i64 rbx) := by rw [eW]; exact cell_else (by simp; omega) (cell_else (by simp; omega) x12)
 have x13 : Wc.cell? ⟨w.heap.size, 13, none⟩ = some (.int .i64 rby) := by rw [eW]; exact cell_else (by simp; omega) (cell_else (by simp; omega) x13)
 have z0 : Wc.cell? ⟨w.heap.size + 1, 0, none⟩ = some (.int .i64 px) := by rw [eW]; exact cell_else (by simp; omega) (cell_else (by simp; omega) z0)
 have z1 : Wc.cell? ⟨w.heap.size + 1, 1, none⟩ = some (.int .i64 py) := by rw [eW]; exact cell_else (by simp; omega) (cell_else (by simp; omega) z1)
 have d6 : Wc.cell? ⟨g, ob + 6, none⟩ = some (.int .i64 b.sp) := by rw [← HO'.out]; exact L3.out.at1 (x := { b with vx := bx, vy := by_ }) encB_len (List.getElem?_set_self hkl) rfl
 have hfrA : ∀ o, Wc.frozen? ⟨g, o, none⟩ = false := L3.out.free
 have iu := hB.sp
 rw [← eW]
 clear eW d3 d4 hfr1 KM L2 BW2 iv iv' lsA
 refine reg_made_tail 18 (by kernel_rfl) (by kernel_rfl) ?_
 intro T hT f hf
 have x1' := Class.reads hf x1
 have x9' := Class.reads hf x9
 have x12' := Class.reads hf x12
 have x13' := Class.reads hf x13
 have z0' := Class.reads hf z0
 have z1' := Class.reads hf z1
 have d6' := Class.reads hf d6
 simp only [List.take_succ_cons, List.take_zero, List.drop_succ_cons, List.drop_zero]
 repeat (go_big_quiet_step ((first
  | (go_at_call 38; with_reducible exact hf.made (vcross_is rbx rby px py ee _ h3 h4 h5 h6 ee_.out))
  | (go_at_call 12; with_reducible exact hf.same (mul_is s2 ee ff _ h10 je ef.out))
  | (go_at_call 26; with_reducible exact hf.same (add_is b.sp ff bsp _ iu jf et.out)))))
 refine wpQuiet_nil ?_
 intro w4 g4
 have hb := hf.here g4
 have d6 := hb.reads d6
 have KM := hid hb
 have hfr1 : ∀ o, w4.frozen? ⟨g, o, none⟩ = false := fun o => (hb.2 _).trans (hfrA o)
 clear hb hf g4 hfrA x1 x9 x12 x13 z0 z1 x1' x9' x12' x13' z0' z1' d6'
 go_wp2_with fail
 refine bodyPost_end (results_none rfl _ _ _) rfl ⟨rfl, ?_, ?_⟩
 ·exact (BW3.out.then_ KM.out.but).put (p := ⟨g, ob + 6, none⟩) (.inl rfl) _
 ·have r1 := (L3.out.stays KM.out L3.out.here).put1 encB_len (i := k) (j := 6) (x := { b with vx := bx, vy := by_ }) (x' := { b with vx := bx, vy := by_, sp := bsp }) (u := .int .i64 bsp) (List.getElem?_set_self hkl) (by omega) rfl
  rw [List.set_set, HO'.out] at r1
  exact r1
end Go.Proofs.YtjhcejmfiekjgaaGreat.Fx
/- Package solve: a crowd: bodies and their masses; links. -/
namespace Go.Proofs.YtjhcejmfiekjgaaGreat.Fx
open Go.ChangeShapes Go.WideShapes Go.ChangeAt Go.RowKit
set_option linter.unusedVariables false
def mA (b : Bd) : Int := if b.de ≤ 0 then 0 else max (mulF b.de (areaB b)) 1
def mI (b : Bd) : Int := if b.de ≤ 0 then 0 else max (mulF b.de (roundB b)) 1
def encM (b : Bd) : List Value := [.int .i64 (mA b), .int .i64 (mI b), .int .i64 (moveB b), .int .i64 (spinB b)]
theorem encM_len (b : Bd) : (encM b).length = 4 := rfl
theorem mass_enc (b : Bd) : massB b = .agg (encM b).toArray := by
 unfold massB massOf encM mA mI moveB spinB
 split <;> rfl
theorem move_I (b : Bd) : I64 (moveB b) := by
 unfold moveB
 split
 ·unfold I64; omega
 ·exact i64_div _ _
theorem spin_I (b : Bd) : I64 (spinB b) := by
 unfold spinB
 split
 ·unfold I64; omega
 ·exact i64_div _ _
theorem Made.setRow {B g : Nat} {a w : World} (h : Made B a w) (hg : B ≤ g) (cs : Array Value) : Made B a (w.setRow g cs) := by
 refine ⟨⟨h.1.os, h.1.tape, h.1.output, Nat.le_trans h.1.size (by simp [World.setRow]), fun b hb => (setRow_other w g b cs (by omega)).trans (h.1.block b hb)⟩, fun a => (frozen_setRow w g cs a).trans (h.2 a)⟩
theorem sexist_c (ao : Option Addr) (n c i k : Nat) (w : World) (hi : i < n) (hk : k < n) :
  Calls Tryz.prog 51 #[.slice ao n c, .int .i64 (i : Nat), .int .i64 (k : Nat)] w fun e w' => e = .returned (.bool true) ∧ w = w' := by
 obtain ⟨m, em⟩ : ∃ m : Nat, min (i : Int) (k : Int) = (m : Int) := ⟨min i k, by omega⟩
 obtain ⟨M, eM⟩ : ∃ M : Nat, max (i : Int) (k : Int) = (M : Int) := ⟨max i k, by omega⟩
 have hM : M < n := by omega
 have d1 : decide ((m : Int) ≥ 0) = true := decide_eq_true (by omega)
 have d2 : decide ((M : Int) < (n : Int)) = true := decide_eq_true (by omega)
 have d3 : decide (M < n) = true := decide_eq_true hM
 clear hi hk
 go_enter Tryz.func51, Tryz.ntmps51
 go_wp2_with fail
 go_ret
 exact ⟨rfl, rfl⟩
theorem ElT.m4 {w : World} {b o : Nat} {x : Bd} (h : ElT encM w b o x) : w.cell? ⟨b, o, none⟩ = some (.int .i64 (mA x)) ∧ w.cell? ⟨b, o + 1, none⟩ = some (.int .i64 (mI x)) ∧ w.cell? ⟨b, o + 2, none⟩ = some (.int .i64 (moveB x)) ∧ w.cell? ⟨b, o + 3, none⟩ = some (.int .i64 (spinB x)) :=
 ⟨h 0 _ rfl, h 1 _ rfl, h 2 _ rfl, h 3 _ rfl⟩
theorem link_c {gb ob gm n cb cm i k oa ok : Nat} {L : List Bd} {a b : Bd} (rax ray rbx rby : Int) (w : World) (hL : LsB encM 4 w gm 0 L) (hi : L[i]? = some a) (hk : L[k]? = some b) (hin : i < n) (hkn : k < n) (eoa : ob + i * 11 = oa) (eok : ob + k * 11 = ok) :
  Calls Tryz.prog 60 #[.agg #[.slice (some ⟨gb, ob, none⟩) n cb, .slice (some ⟨gm, 0, none⟩) n cm], .int .i64 (i : Nat), .int .i64 (k : Nat), vecV rax ray, vecV rbx rby] w
   fun e w' => e = .returned (.tuple #[lnkV (.pointer (some ⟨gb, oa, none⟩)) (.pointer (some ⟨gb, ok, none⟩)) (mA a) (mI a) (moveB a) (spinB a) (mA b) (mI b) (moveB b) (spinB b) rax ray rbx rby, .bool true]) ∧ Made w.heap.size w w' := by
 obtain ⟨a0, a1, a2, a3⟩ := (hL i a hi).m4
 obtain ⟨b0, b1, b2, b3⟩ := (hL k b hk).m4
 rw [Nat.zero_add] at a0 a1 a2 a3 b0 b1 b2 b3
 obtain ⟨pa, epa⟩ : ∃ p, i * 4 = p := ⟨_, rfl⟩
 obtain ⟨pb, epb⟩ : ∃ p, k * 4 = p := ⟨_, rfl⟩
 rw [epa] at a0 a1 a2 a3
 rw [epb] at b0 b1 b2 b3
 obtain ⟨A0, e0⟩ : ∃ x, mA a = x := ⟨_, rfl⟩
 obtain ⟨A1, e1⟩ : ∃ x, mI a = x := ⟨_, rfl⟩
 obtain ⟨A2, e2⟩ : ∃ x, moveB a = x := ⟨_, rfl⟩
 obtain ⟨A3, e3⟩ : ∃ x, spinB a = x := ⟨_, rfl⟩
 obtain ⟨B0, f0⟩ : ∃ x, mA b = x := ⟨_, rfl⟩
 obtain ⟨B1, f1⟩ : ∃ x, mI b = x := ⟨_, rfl⟩
 obtain ⟨B2, f2⟩ : ∃ x, moveB b = x := ⟨_, rfl⟩
 obtain ⟨B3, f3⟩ : ∃ x, spinB b = x := ⟨_, rfl⟩
 rw [e0] at a0; rw [e1] at a1; rw [e2] at a2; rw [e3] at a3
 rw [f0] at b0; rw [f1] at b1; rw [f2] at b2; rw [f3] at b3
 rw [e0, e1, e2, e3, f0, f1, f2, f3]
 clear e0 e1 e2 e3 f0 f1 f2 f3 hL hi hk
 go_enter Tryz.func60, Tryz.ntmps60
 go_wp2_with fail
 refine (sexist_c (some ⟨gb, ob, none⟩) n cb i k _ hin hkn).mono ?_
 rintro e w1 ⟨rfl, rfl⟩
 go_upto_region 3 with fail
 obtain ⟨W, eW⟩ : ∃ W, W = ((((w.alloc (.cells #[.slice (some ⟨gb, ob, none⟩) n cb, .slice (some ⟨gm, 0, none⟩) n cm] 79)).alloc (.cells #[.int .i64 rax, .int .i64 ray] 26)).alloc (.cells #[.int .i64 rbx, .int .i64 rby] 26)).alloc (.cells #[.pointer none, .pointer none, .int .i64 0, .int .i64 0, .int .i64 0, .int .i64 0, .int .i64 0, .int .i64 0, .int .i64 0, .int .i64 0, .int .i64 0, .int .i64 0, .int .i64 0, .int .i64 0] 110)) := ⟨_, rfl⟩
 have c0 : W.cell? ⟨w.heap.size, 0, none⟩ = some (.slice (some ⟨gb, ob, none⟩) n cb) := by rw [eW]; go_simp
 have c1 : W.cell? ⟨w.heap.size, 1, none⟩ = some (.slice (some ⟨gm, 0, none⟩) n cm) := by rw [eW]; go_simp
 have x0 : W.cell? ⟨w.heap.size + 1, 0, none⟩ = some (.int .i64 rax) := by rw [eW]; go_simp
 have x1 : W.cell? ⟨w.heap.size + 1, 1, none⟩ = some (.int .i64 ray) := by rw [eW]; go_simp
 have y0 : W.cell? ⟨w.heap.size + 1 + 1, 0, none⟩ = some (.int .i64 rbx) := by rw [eW]; go_simp
 have y1 : W.cell? ⟨w.heap.size + 1 + 1, 1, none⟩ = some (.int .i64 rby) := by rw [eW]; go_simp
 have hR : Has W (w.heap.size + 1 + 1 + 1) 110 #[.pointer none, .pointer none, .int .i64 0, .int .i64 0, .int .i64 0, .int .i64 0, .int .i64 0, .int .i64 0, .int .i64 0, .int .i64 0, .int .i64 0, .int .i64 0, .int .i64 0, .int .i64 0] := by
  have := has_new (((w.alloc (.cells #[.slice (some ⟨gb, ob, none⟩) n cb, .slice (some ⟨gm, 0, none⟩) n cm] 79)).alloc (.cells #[.int .i64 rax, .int .i64 ray] 26)).alloc (.cells #[.int .i64 rbx, .int .i64 rby] 26)) 110 #[.pointer none, .pointer none, .int .i64 0, .int .i64 0, .int .i64 0, .int .i64 0, .int .i64 0, .int .i64 0, .int .i64 0, .int .i64 0, .int .i64 0, .int .i64 0, .int .i64 0, .int .i64 0]
  rw [eW]
  simpa using this
 have MW : Hid (Made w.heap.size w W) := by
  unfold Hid; rw [eW]
  exact (((Made.rfl_ _ _).cells (Nat.le_refl _) _ _).cells (by simp) _ _).cells (by simp; omega) _ _ |>.cells (by simp; omega) _ _
 have a0 := MW.out.reads a0
 have a1 := MW.out.reads a1
 have a2 := MW.out.reads a2
 have a3 := MW.out.reads a3
 have b0 := MW.out.reads b0
 have b1 := MW.out.reads b1
 have b2 := MW.out.reads b2
 have b3 := MW.out.reads b3
 obtain ⟨g0, eg0⟩ : ∃ g, w.heap.size = g := ⟨_, rfl⟩
 rw [eg0] at c0 c1 x0 x1 y0 y1
 rw [← eW]
 have hin' : (i : Int) < (n : Int) := by omega
 clear eW
 refine reg_made_tail 21 (by kernel_rfl) (by kernel_rfl) ?_
 intro T hT f hf
 have c0 := Class.reads hf c0
 have c1 := Class.reads hf c1
 have x0 := Class.reads hf x0
 have x1 := Class.reads hf x1
 have y0 := Class.reads hf y0
 have y1 := Class.reads hf y1
 have a0 := Class.reads hf a0
 have a1 := Class.reads hf a1
 have a2 := Class.reads hf a2
 have a3 := Class.reads hf a3
 have b0 := Class.reads hf b0
 have b1 := Class.reads hf b1
 have b2 := Class.reads hf b2
 have b3 := Class.reads hf b3
 simp only [List.take_succ_cons, List.take_zero, List.drop_succ_cons, List.drop_zero]
 repeat (go_big_quiet_step (fail))
 refine wpQuiet_nil ?_
 intro w3 h3
 have hb := hf.here h3
 have hR := hR.stays hb hR.here
 have M3 := hid (MW.out.then_ (hb.low MW.out.1.size))
 have EG := hid eg0
 clear hb hf h3 a0 a1 a2 a3 b0 b1 b2 b3 c0 c1 x0 x1 y0 y1
 have hlt := hR.here
 have hfr := hR.free
 have hsz : (Tryz.prog.info? 110).map (·.size) = some 14 := by kernel_rfl
 go_wp2_with (refine wpList_store_row rfl 110 (.tmp 10) (.tmp 39) rfl (w.heap.size + 1 + 1 + 1) #[.pointer (some ⟨gb, oa, none⟩), .pointer (some ⟨gb, ok, none⟩), .int .i64 A0, .int .i64 A1, .int .i64 A2, .int .i64 A3, .int .i64 B0, .int .i64 B1, .int .i64 B2, .int .i64 B3, .int .i64 rax, .int .i64 ray, .int .i64 rbx, .int .i64 rby] rfl rfl 110 _ hR hsz rfl (by simp [Value.oneCell']) ?_)
 rw [eg0] at hR
 have hl := run_loadVar_row (P := Tryz.prog) (w3.setRow (g0 + 1 + 1 + 1) #[.pointer (some ⟨gb, oa, none⟩), .pointer (some ⟨gb, ok, none⟩), .int .i64 A0, .int .i64 A1, .int .i64 A2, .int .i64 A3, .int .i64 B0, .int .i64 B1, .int .i64 B2, .int .i64 B3, .int .i64 rax, .int .i64 ray, .int .i64 rbx, .int .i64 rby]) (g0 + 1 + 1 + 1) 110 110 _ (0, 0) _ (setRow_heap w3 _ _ _ _ _ hR) Tryz.underlying110 rfl hsz
 have MF : Made w.heap.size w (w3.setRow (g0 + 1 + 1 + 1) #[.pointer (some ⟨gb, oa, none⟩), .pointer (some ⟨gb, ok, none⟩), .int .i64 A0, .int .i64 A1, .int .i64 A2, .int .i64 A3, .int .i64 B0, .int .i64 B1, .int .i64 B2, .int .i64 B3, .int .i64 rax, .int .i64 ray, .int .i64 rbx, .int .i64 rby]) := M3.out.setRow (by omega) _
 obtain ⟨U, eU⟩ : ∃ U, w3.setRow (g0 + 1 + 1 + 1) #[.pointer (some ⟨gb, oa, none⟩), .pointer (some ⟨gb, ok, none⟩), .int .i64 A0, .int .i64 A1, .int .i64 A2, .int .i64 A3, .int .i64 B0, .int .i64 B1, .int .i64 B2, .int .i64 B3, .int .i64 rax, .int .i64 ray, .int .i64 rbx, .int .i64 rby] = U := ⟨_, rfl⟩
 rw [eU] at hl MF ⊢
 clear eU
 refine bodyPost_ret (v := .tuple #[lnkV (.pointer (some ⟨gb, oa, none⟩)) (.pointer (some ⟨gb, ok, none⟩)) A0 A1 A2 A3 B0 B1 B2 B3 rax ray rbx rby, .bool true]) (by simp [results, Tryz.results60, asAddr, hl]) rfl ⟨rfl, MF⟩
end Go.Proofs.YtjhcejmfiekjgaaGreat.Fx