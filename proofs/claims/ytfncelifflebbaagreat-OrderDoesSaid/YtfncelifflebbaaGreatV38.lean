/- OtE -/
import Derived.Test.YtfncelifflebbaaGreatV37

/- Equal worlds go the same way, plain. -/

namespace Go.Proofs.YtfncelifflebbaaGreat.Fx
open Go.ChangeShapes Go.WideShapes Go.ChangeAt Go.RowKit
set_option linter.unusedVariables false

theorem eqb_nil (B' : List Bd) (h : EqBs [] B') : B' = [] := List.eq_nil_of_length_eq_zero h.1.symm
theorem eqb_cons {b b' : Bd} {B B' : List Bd} : EqBs (b :: B) (b' :: B') ↔ EqB b b' ∧ EqBs B B' := by
  constructor
  · intro h
    refine ⟨h.2 0 b b' rfl rfl, by simpa using h.1, fun i x y hx hy => h.2 (i + 1) x y (by simpa using hx) (by simpa using hy)⟩
  · rintro ⟨h0, h1, h2⟩
    refine ⟨by simpa using h1, fun i x y hx hy => ?_⟩
    cases i with
    | zero => simp at hx hy; subst hx; subst hy; exact h0
    | succ i => exact h2 i x y (by simpa using hx) (by simpa using hy)
theorem EqBs.ids {B B' : List Bd} (h : EqBs B B') : Fx.ids B = Fx.ids B' := by
  induction B generalizing B' with
  | nil => rw [eqb_nil _ h]
  | cons b B ih =>
    cases B' with
    | nil => exact absurd h.1 (by simp)
    | cons b' B' =>
      obtain ⟨h0, h1⟩ := eqb_cons.1 h
      show b.id :: Fx.ids B = b'.id :: Fx.ids B'
      rw [ih h1, h0.1]
theorem EqBs.snoc {B B' : List Bd} {b b' : Bd} (h : EqBs B B') (k : EqB b b') : EqBs (B ++ [b]) (B' ++ [b']) := by
  induction B generalizing B' with
  | nil => rw [eqb_nil _ h]; exact eqb_cons.2 ⟨k, rfl, fun i x y hx => by simp at hx⟩
  | cons c B ih =>
    cases B' with
    | nil => exact absurd h.1 (by simp)
    | cons c' B' =>
      obtain ⟨h0, h1⟩ := eqb_cons.1 h
      exact eqb_cons.2 ⟨h0, ih h1⟩
theorem EqBs.filter {B B' : List Bd} (h : EqBs B B') (p : Bd → Bool) (hp : ∀ x y, EqB x y → p x = p y) : EqBs (B.filter p) (B'.filter p) := by
  induction B generalizing B' with
  | nil => rw [eqb_nil _ h]; exact ⟨rfl, fun i x y hx => by simp at hx⟩
  | cons b B ih =>
    cases B' with
    | nil => exact absurd h.1 (by simp)
    | cons b' B' =>
      obtain ⟨h0, h1⟩ := eqb_cons.1 h
      rw [List.filter_cons, List.filter_cons, hp b b' h0]
      split
      · exact eqb_cons.2 ⟨h0, ih h1⟩
      · exact ih h1
theorem sumT_same (T : Int × Int → Int × Int → Int) {f g : Cs} {n : Nat} (h : ∀ i, i < n → f i = g i) : ∀ m, m ≤ n → sumT T f n m = sumT T g n m
  | 0, _ => rfl
  | m + 1, hm => by
    unfold sumT
    rw [sumT_same T h m (by omega), h m (by omega), h ((m + 1) % n) (Nat.mod_lt _ (by omega))]
theorem EqB.area {b b' : Bd} (h : EqB b b') : areaB b = areaB b' ∧ roundB b = roundB b' := by
  obtain ⟨_, _, _, _, _, _, hk, hr, hn, hf⟩ := h
  unfold areaB roundB
  rw [hk, hr, hn, sumT_same areaT (f := b.f) (g := b'.f) (n := b'.n) (fun i hi => hf i (by omega)) _ (Nat.le_refl _), sumT_same roundT (f := b.f) (g := b'.f) (n := b'.n) (fun i hi => hf i (by omega)) _ (Nat.le_refl _)]
  exact ⟨rfl, rfl⟩
theorem EqB.push {b b' : Bd} (h : EqB b b') (vx vy sp : Int) : EqB (pushB vx vy sp b) (pushB vx vy sp b') := by
  obtain ⟨ha, hr⟩ := h.area
  have hm : moveB b = moveB b' := by unfold moveB; rw [h.2.2.2.2.2.1, ha]
  have hs : spinB b = spinB b' := by unfold spinB; rw [h.2.2.2.2.2.1, hr]
  obtain ⟨h1, ⟨h2, h2'⟩, ⟨h3, h3'⟩, h4, h5, h6, h7, h8, h9, h10⟩ := h
  unfold pushB
  rw [hm, hs, h3, h3', h5]
  exact ⟨h1, ⟨h2, h2'⟩, ⟨rfl, rfl⟩, h4, rfl, h6, h7, h8, h9, h10⟩
def EqG (G H : PG) : Prop := G.tk = H.tk ∧ G.gx = H.gx ∧ G.gy = H.gy ∧ G.P.nb = H.P.nb ∧ G.P.nj = H.P.nj ∧ EqBs G.P.B H.P.B ∧ G.P.J = H.P.J ∧ G.P.C = H.P.C
theorem right_same {K R : Int} {n : Nat} {f g : Cs} (h : RightP K R n f) (e : ∀ i, i < n → f i = g i) : RightP K R n g := by
  rcases h with h | ⟨h1, h2, h3, h4, h5, h6⟩
  · exact .inl h
  · refine .inr ⟨h1, h2, h3, h4, fun i hi => by rw [← e i hi]; exact h5 i hi, fun i hi j hj a b => ?_⟩
    have h7 := h6 i hi j hj a b
    unfold crossF at h7 ⊢
    rwa [e i hi, e j hj, e ((i + 1) % n) (Nat.mod_lt _ (by omega))] at h7
theorem body_same {b b' : Bd} (h : EqB b { b' with id := b.id }) (k : BodyP b) : BodyP b' := by
  obtain ⟨_, ⟨h2, h2'⟩, ⟨h3, h3'⟩, h4, h5, h6, h7, h8, h9, h10⟩ := h
  have h2 : b.x = b'.x := h2; have h2' : b.y = b'.y := h2'; have h3 : b.vx = b'.vx := h3; have h3' : b.vy = b'.vy := h3'
  have h4 : b.an = b'.an := h4; have h5 : b.sp = b'.sp := h5; have h6 : b.de = b'.de := h6; have h7 : b.k = b'.k := h7; have h8 : b.r = b'.r := h8; have h9 : b.n = b'.n := h9
  refine ⟨?_, by rw [← h2]; exact k.x, by rw [← h2']; exact k.y, by rw [← h3]; exact k.vx, by rw [← h3']; exact k.vy, by rw [← h5]; exact k.sp, by rw [← h4]; exact k.an, by rw [← h6]; exact k.de, fun h0 => by rw [← h3, ← h3', ← h5]; exact k.still (h6.trans h0)⟩
  have hf : ∀ i, i < b'.n → b.f i = b'.f i := fun i hi => h10 i (by omega)
  rw [← h7, ← h8, ← h9]
  exact right_same k.shape (fun i hi => hf i (by omega))
theorem add_same {G H : PG} {b b' : Bd} {n e n' e' : Int} {P' Q' : PW} (h : EqG G H) (hb : EqB b { b' with id := b.id }) (k : AddBP b G.P n e P') (k' : AddBP b' H.P n' e' Q') : EqG ⟨G.tk, G.gx, G.gy, P'⟩ ⟨H.tk, H.gx, H.gy, Q'⟩ := by
  obtain ⟨e1, e2, e3, e4, e5, e6, e7, e8⟩ := h
  have hB : BodyP b ↔ BodyP b' := ⟨body_same hb, fun k => body_same (b := b') (b' := b) (by
    obtain ⟨_, ⟨h2, h2'⟩, ⟨h3, h3'⟩, h4, h5, h6, h7, h8, h9, h10⟩ := hb
    exact ⟨rfl, ⟨h2.symm, h2'.symm⟩, ⟨h3.symm, h3'.symm⟩, h4.symm, h5.symm, h6.symm, h7.symm, h8.symm, h9.symm, fun i hi => (h10 i (by have h9 : b.n = b'.n := h9; omega)).symm⟩) k⟩
  have hl := e6.1
  rcases k with ⟨a, _, _, rfl⟩ | ⟨a, c, _, _, rfl⟩ | ⟨a, c, d, _, _, ao, cc, rfl⟩
  · rcases k' with ⟨_, _, _, rfl⟩ | ⟨a', _⟩ | ⟨a', _⟩
    · exact ⟨e1, e2, e3, e4, e5, e6, e7, e8⟩
    · exact absurd (hB.2 a') a
    · exact absurd (hB.2 a') a
  · rcases k' with ⟨a', _⟩ | ⟨_, _, _, _, rfl⟩ | ⟨_, c', d', _⟩
    · exact absurd (hB.1 a) a'
    · exact ⟨e1, e2, e3, e4, e5, e6, e7, e8⟩
    · omega
  · rcases k' with ⟨a', _⟩ | ⟨_, c', _⟩ | ⟨_, _, _, _, _, ao', cc', rfl⟩
    · exact absurd (hB.1 a) a'
    · omega
    · refine ⟨e1, e2, e3, by show _ + 1 = _ + 1; rw [e4], e5, e6.snoc ?_, e7, e8⟩
      obtain ⟨_, h2, h3, h4, h5, h6, h7, h8, h9, h10⟩ := hb
      exact ⟨e4, h2, h3, h4, h5, h6, h7, h8, h9, h10⟩
theorem remb_same {G H : PG} {id : Int} {g g' : Bool} {P' Q' : PW} (h : EqG G H) (k : RemBP id G.P g P') (k' : RemBP id H.P g' Q') : EqG ⟨G.tk, G.gx, G.gy, P'⟩ ⟨H.tk, H.gx, H.gy, Q'⟩ := by
  obtain ⟨e1, e2, e3, e4, e5, e6, e7, e8⟩ := h
  have hi := e6.ids
  rcases k with ⟨a, _, rfl⟩ | ⟨a, _, rfl⟩
  · rcases k' with ⟨_, _, rfl⟩ | ⟨a', _⟩
    · exact ⟨e1, e2, e3, e4, e5, e6, e7, e8⟩
    · exact absurd (by rw [hi]; exact a') a
  · rcases k' with ⟨a', _⟩ | ⟨_, _, rfl⟩
    · exact absurd (by rw [← hi]; exact a) a'
    · refine ⟨e1, e2, e3, e4, e5, e6.filter _ (fun x y hxy => by unfold goneB; rw [hxy.1]), ?_, ?_⟩
      · show G.P.J.filter _ = H.P.J.filter _; rw [e7]
      · show G.P.C.filter _ = H.P.C.filter _; rw [e8]
theorem addj_same {G H : PG} {j j' : Jt} {n e n' e' : Int} {P' Q' : PW} (h : EqG G H) (hj : j' = { j with id := j'.id }) (k : AddJP j G.P n e P') (k' : AddJP j' H.P n' e' Q') : EqG ⟨G.tk, G.gx, G.gy, P'⟩ ⟨H.tk, H.gx, H.gy, Q'⟩ := by
  obtain ⟨e1, e2, e3, e4, e5, e6, e7, e8⟩ := h
  have hi := e6.ids
  have hJ : JointP j ↔ JointP j' := by rw [hj]; exact ⟨fun k => ⟨k.ax, k.ay, k.tx, k.ty, k.ln, k.a, k.b, k.ab⟩, fun k => ⟨k.ax, k.ay, k.tx, k.ty, k.ln, k.a, k.b, k.ab⟩⟩
  have ha : j'.a = j.a := by rw [hj]
  have hb : j'.b = j.b := by rw [hj]
  have hn : newJ G.P.nj j = newJ H.P.nj j' := by rw [hj, e5]; rfl
  unfold AddJP at k'
  rw [← hi, ← e7, ← e5, ha, hb] at k'
  rcases k with ⟨a, _, _, rfl⟩ | ⟨a, c, _, _, rfl⟩ | ⟨a, c, d, _, _, rfl⟩ | ⟨a, c, d, f, _, _, rfl⟩
  · rcases k' with ⟨_, _, _, rfl⟩ | ⟨a', _⟩ | ⟨a', _⟩ | ⟨a', _⟩
    · exact ⟨e1, e2, e3, e4, e5, e6, e7, e8⟩
    all_goals exact absurd (hJ.2 a') a
  · rcases k' with ⟨a', _⟩ | ⟨_, _, _, _, rfl⟩ | ⟨_, c', _⟩ | ⟨_, c', _⟩
    · exact absurd (hJ.1 a) a'
    · exact ⟨e1, e2, e3, e4, e5, e6, e7, e8⟩
    all_goals exact absurd c' c
  · rcases k' with ⟨a', _⟩ | ⟨_, c', _⟩ | ⟨_, _, _, _, _, rfl⟩ | ⟨_, _, d', f', _⟩
    · exact absurd (hJ.1 a) a'
    · exact absurd c c'
    · exact ⟨e1, e2, e3, e4, e5, e6, e7, e8⟩
    · omega
  · rcases k' with ⟨a', _⟩ | ⟨_, c', _⟩ | ⟨_, _, d', _⟩ | ⟨_, _, _, _, _, _, rfl⟩
    · exact absurd (hJ.1 a) a'
    · exact absurd c c'
    · omega
    · refine ⟨e1, e2, e3, e4, by show _ + 1 = _ + 1; rw [e5], e6, ?_, e8⟩
      show G.P.J ++ [newJ G.P.nj j] = _
      rw [e7, hn, ← e5]
theorem remj_same {G H : PG} {id : Int} {g g' : Bool} {P' Q' : PW} (h : EqG G H) (k : RemJP id G.P g P') (k' : RemJP id H.P g' Q') : EqG ⟨G.tk, G.gx, G.gy, P'⟩ ⟨H.tk, H.gx, H.gy, Q'⟩ := by
  obtain ⟨e1, e2, e3, e4, e5, e6, e7, e8⟩ := h
  rcases k with ⟨a, _, rfl⟩ | ⟨a, _, rfl⟩
  · rcases k' with ⟨_, _, rfl⟩ | ⟨a', _⟩
    · exact ⟨e1, e2, e3, e4, e5, e6, e7, e8⟩
    · exact absurd (by rw [e7]; exact a') a
  · rcases k' with ⟨a', _⟩ | ⟨_, _, rfl⟩
    · exact absurd (by rw [← e7]; exact a) a'
    · refine ⟨e1, e2, e3, e4, e5, e6, ?_, e8⟩
      show G.P.J.filter _ = H.P.J.filter _; rw [e7]
def pushOne (id vx vy sp : Int) (b : Bd) : Bd := if b.id = id ∧ b.de ≠ 0 then pushB vx vy sp b else b
theorem push_same {G H : PG} {id vx vy sp : Int} {P' : PW} (h : EqG G H) (hG : POk G.P) (k : PushP id vx vy sp G.P P') : EqG ⟨G.tk, G.gx, G.gy, P'⟩ ⟨H.tk, H.gx, H.gy, ⟨H.P.nb, H.P.nj, H.P.B.map (pushOne id vx vy sp), H.P.J, H.P.C⟩⟩ := by
  obtain ⟨e1, e2, e3, e4, e5, e6, e7, e8⟩ := h
  have get : ∀ (j : Nat) y, (H.P.B.map (pushOne id vx vy sp))[j]? = some y → ∃ z, H.P.B[j]? = some z ∧ y = pushOne id vx vy sp z := fun j y hy => by
    rw [List.getElem?_map] at hy
    cases hz : H.P.B[j]? with
    | none => rw [hz] at hy; cases hy
    | some z => rw [hz] at hy; exact ⟨z, rfl, (Option.some.inj hy).symm⟩
  rcases k with ⟨a, rfl⟩ | ⟨i, b, hb, hi, hd, rfl⟩
  · refine ⟨e1, e2, e3, e4, e5, ⟨by rw [List.length_map]; exact e6.1, fun j x y hx hy => ?_⟩, e7, e8⟩
    obtain ⟨z, hz, rfl⟩ := get j y hy
    have hxz := e6.2 j x z hx hz
    have hno : ¬ (z.id = id ∧ z.de ≠ 0) := fun ⟨h1, h2⟩ => by
      have hm := List.mem_of_getElem? hx
      have h3 := a x hm (hxz.1.trans h1)
      have h4 := (hG.hB.all x hm).de.1
      have h5 := hxz.2.2.2.2.2.1
      omega
    unfold pushOne
    rw [if_neg hno]
    exact hxz
  · refine ⟨e1, e2, e3, e4, e5, ⟨by rw [List.length_map, List.length_set]; exact e6.1, fun j x y hx hy => ?_⟩, e7, e8⟩
    obtain ⟨z, hz, rfl⟩ := get j y hy
    have hx : (G.P.B.set i (pushB vx vy sp b))[j]? = some x := hx
    unfold pushOne
    by_cases hj : i = j
    · subst hj
      rw [List.getElem?_set_self (List.getElem?_eq_some_iff.1 hb).1] at hx
      have hx := Option.some.inj hx
      have hbz := e6.2 i b z hb hz
      rw [← hx, if_pos ⟨hbz.1.symm.trans hi, by have := hbz.2.2.2.2.2.1; omega⟩]
      exact hbz.push vx vy sp
    · rw [List.getElem?_set_ne hj] at hx
      have hxz := e6.2 j x z hx hz
      rw [if_neg (fun h1 => hj (id_at hG.hB.num.2.2.1 hb hx (hi.trans (hxz.1.trans h1.1).symm)))]
      exact hxz
theorem exec1_of {o : Or} {G G' : PG} {er : Int} (hk : o.kd = 1) (h : ExecP o G er G') : ∃ n P', AddBP (bodyOr o) G.P n er P' ∧ G' = ⟨G.tk, G.gx, G.gy, P'⟩ := by
  rcases h with ⟨_, h⟩ | ⟨h, _⟩ | ⟨h, _⟩ | ⟨h, _⟩ | ⟨h, _⟩ | ⟨h, _⟩
  · exact h
  all_goals omega
theorem exec2_of {o : Or} {G G' : PG} {er : Int} (hk : o.kd = 2) (h : ExecP o G er G') : ∃ gone P', RemBP o.id G.P gone P' ∧ G' = ⟨G.tk, G.gx, G.gy, P'⟩ := by
  rcases h with ⟨h, _⟩ | ⟨_, _, h⟩ | ⟨h, _⟩ | ⟨h, _⟩ | ⟨h, _⟩ | ⟨h, _⟩
  · omega
  · exact h
  all_goals omega
theorem exec3_of {o : Or} {G G' : PG} {er : Int} (hk : o.kd = 3) (h : ExecP o G er G') : ∃ n P', AddJP (jointOr o) G.P n er P' ∧ G' = ⟨G.tk, G.gx, G.gy, P'⟩ := by
  rcases h with ⟨h, _⟩ | ⟨h, _⟩ | ⟨_, h⟩ | ⟨h, _⟩ | ⟨h, _⟩ | ⟨h, _⟩
  · omega
  · omega
  · exact h
  all_goals omega
theorem exec4_of {o : Or} {G G' : PG} {er : Int} (hk : o.kd = 4) (h : ExecP o G er G') : ∃ gone P', RemJP o.id G.P gone P' ∧ G' = ⟨G.tk, G.gx, G.gy, P'⟩ := by
  rcases h with ⟨h, _⟩ | ⟨h, _⟩ | ⟨h, _⟩ | ⟨_, _, h⟩ | ⟨h, _⟩ | ⟨h, _⟩
  · omega
  · omega
  · omega
  · exact h
  all_goals omega
theorem exec5_of {o : Or} {G G' : PG} {er : Int} (hk : o.kd = 5) (h : ExecP o G er G') : ∃ P', PushP o.id o.vx o.vy o.sp G.P P' ∧ G' = ⟨G.tk, G.gx, G.gy, P'⟩ := by
  rcases h with ⟨h, _⟩ | ⟨h, _⟩ | ⟨h, _⟩ | ⟨h, _⟩ | ⟨_, _, h⟩ | ⟨h, _⟩
  · omega
  · omega
  · omega
  · omega
  · exact h
  · omega
theorem exec6_of {o : Or} {G G' : PG} {er : Int} (hk : o.kd = 6) (h : ExecP o G er G') : G' = ⟨G.tk, o.vx, o.vy, G.P⟩ := by
  rcases h with ⟨h, _⟩ | ⟨h, _⟩ | ⟨h, _⟩ | ⟨h, _⟩ | ⟨h, _⟩ | ⟨_, _, h⟩
  · omega
  · omega
  · omega
  · omega
  · omega
  · exact h
def curB (id vx vy sp : Int) (B : List Bd) (k : Nat) : List Bd := (B.take k).map (pushOne id vx vy sp) ++ B.drop k
theorem curB_len (id vx vy sp : Int) (B : List Bd) (k : Nat) : (curB id vx vy sp B k).length = B.length := by
  unfold curB; rw [List.length_append, List.length_map, List.length_take, List.length_drop]; omega
theorem curB_zero (id vx vy sp : Int) (B : List Bd) : curB id vx vy sp B 0 = B := by simp [curB]
theorem curB_all (id vx vy sp : Int) (B : List Bd) {n : Nat} (h : B.length = n) : curB id vx vy sp B n = B.map (pushOne id vx vy sp) := by
  unfold curB; rw [List.take_of_length_le (by omega), List.drop_eq_nil_of_le (by omega), List.append_nil]
theorem curB_at (id vx vy sp : Int) {B : List Bd} {k : Nat} {b : Bd} (h : B[k]? = some b) : (curB id vx vy sp B k)[k]? = some b := by
  have hk := (List.getElem?_eq_some_iff.1 h).1
  unfold curB
  rw [List.getElem?_append_right (by rw [List.length_map, List.length_take]; omega), List.length_map, List.length_take, List.getElem?_drop, ← h]
  congr 1
  omega
theorem curB_next (id vx vy sp : Int) {B : List Bd} {k : Nat} {b : Bd} (h : B[k]? = some b) : (curB id vx vy sp B k).set k (pushOne id vx vy sp b) = curB id vx vy sp B (k + 1) := by
  obtain ⟨hk, hb⟩ := List.getElem?_eq_some_iff.1 h
  have hl : ((B.take k).map (pushOne id vx vy sp)).length = k := by rw [List.length_map, List.length_take]; omega
  unfold curB
  rw [List.set_append_right _ _ (by omega), hl, Nat.sub_self, List.drop_eq_getElem_cons hk, List.set_cons_zero, List.take_succ_eq_append_getElem hk, List.map_append, List.append_assoc, hb]
  rfl
theorem curB_skip {id vx vy sp : Int} {B : List Bd} {k : Nat} {b : Bd} (h : B[k]? = some b) (hn : pushOne id vx vy sp b = b) : curB id vx vy sp B (k + 1) = curB id vx vy sp B k := by
  rw [← curB_next id vx vy sp h, hn]
  have h2 := curB_at id vx vy sp h
  obtain ⟨hk, hb⟩ := List.getElem?_eq_some_iff.1 h2
  conv => lhs; rw [← hb]
  exact List.set_getElem_self hk
theorem pushOne_mem {id vx vy sp : Int} {B : List Bd} {y : Bd} (hy : y ∈ B.map (pushOne id vx vy sp)) : ∃ z ∈ B, y.ao = z.ao ∧ y.n = z.n ∧ y.c = z.c ∧ y.f = z.f ∧ (BdI z → BdI y) := by
  obtain ⟨z, hz, rfl⟩ := List.mem_map.1 hy
  refine ⟨z, hz, ?_⟩
  unfold pushOne
  split
  · have iM : I64 17592186044416 := by unfold I64; omega
    have iN : I64 1099511627776 := by unfold I64; omega
    have iK : I64 (-1099511627776) := by unfold I64; omega
    exact ⟨rfl, rfl, rfl, rfl, fun h => ⟨h.id, h.x, h.y, i64_bring (i64_add _ _) (i64_neg iM) iM, i64_bring (i64_add _ _) (i64_neg iM) iM, h.an, i64_bring (i64_add _ _) iK iN, h.de, h.k, h.r, h.f⟩⟩
  · exact ⟨rfl, rfl, rfl, rfl, fun h => h⟩
theorem exec_C {o : Or} {G G' : PG} {er : Int} (h : ExecP o G er G') : G'.P.C.length ≤ G.P.C.length := by
  rcases h with ⟨_, n, P', k, rfl⟩ | ⟨_, _, g, P', k, rfl⟩ | ⟨_, n, P', k, rfl⟩ | ⟨_, _, g, P', k, rfl⟩ | ⟨_, _, P', k, rfl⟩ | ⟨_, _, rfl⟩
  · rcases k with ⟨_, _, _, rfl⟩ | ⟨_, _, _, _, rfl⟩ | ⟨_, _, _, _, _, ao, c, rfl⟩ <;> exact Nat.le_refl _
  · rcases k with ⟨_, _, rfl⟩ | ⟨_, _, rfl⟩
    · exact Nat.le_refl _
    · exact List.length_filter_le _ _
  · rcases k with ⟨_, _, _, rfl⟩ | ⟨_, _, _, _, rfl⟩ | ⟨_, _, _, _, _, rfl⟩ | ⟨_, _, _, _, _, _, rfl⟩ <;> exact Nat.le_refl _
  · rcases k with ⟨_, _, rfl⟩ | ⟨_, _, rfl⟩ <;> exact Nat.le_refl _
  · rcases k with ⟨_, rfl⟩ | ⟨i, b, _, _, _, rfl⟩ <;> exact Nat.le_refl _
  · exact Nat.le_refl _
end Go.Proofs.YtfncelifflebbaaGreat.Fx

