/- Layer 16: frame.All. -/
import Derived.Test.YtfkggnlefblniaaDoorFrI
namespace Go.Proofs.YtfkggnlefblniaaDoor.Fx
open Go.ChangeShapes Go.WideShapes Go.ChangeAt Go.RowKit
set_option linter.unusedVariables false
attribute [local go_sem] Oper.semAt_some
theorem wide_fn16 (k : Nat) : Fence.wide.fn k = True := rfl
attribute [local go_sem] wide_fn16

set_option maxRecDepth 100000 in
theorem records_in (m : Nat) (ao : Option Addr) (n c : Nat) (most : Int) (w : World) :
    CallsIn Fence.wide m Tryd.prog 24 #[.slice ao n c, .int .i64 most] w fun e w' => e = .returned (.func (.func 33) #[] #[.pointer (some ⟨w.heap.size, 0, none⟩), .pointer (some ⟨w.heap.size + 1, 0, none⟩)]) ∧
      w' = (w.alloc (.cells #[.slice ao n c] 22)).alloc (.cells #[.int .i64 most] 3) := by
  refine callsIn_of_wp Tryd.func24 rfl trivial ?_ rfl
  simp only [Tryd.ntmps24, List.size_toArray, List.length_cons, List.length_nil, Nat.reduceAdd, Nat.reduceSub, Array.replicate_succ, Array.replicate_zero, List.push_toArray, List.append_toArray, List.nil_append, List.cons_append]
  gi_wp2
  go_ret
  exact ⟨by simp, rfl⟩
/-- the cells of a row of records -/
def cellsR (l : List Rc) : List Value := l.flatMap fun x => [.int .i64 x.num, .slice x.ao x.s x.c]
theorem cellsR_len (l : List Rc) : (cellsR l).length = l.length * 2 := by
  induction l with
  | nil => rfl
  | cons x l ih => show (_ :: _ :: cellsR l).length = _; simp only [List.length_cons, ih]; omega
theorem cellsR_snoc (l : List Rc) (x : Rc) : cellsR (l ++ [x]) = cellsR l ++ [.int .i64 x.num, .slice x.ao x.s x.c] := by unfold cellsR; rw [List.flatMap_append]; rfl
theorem OB.grown {X Y : World} {row : Option Nat} {base n : Nat} {v : Value} {f : Nat → Nat} (h : OB X base v n f) (hg : X.grownBy Y row) (hr : v.ownBlock = none ∨ v.ownBlock ≠ row) : OB Y base v n f := World.ownsRow.kept h hg hr
theorem OB.off {X : World} {base n : Nat} {v : Value} {f : Nat → Nat} (h : OB X base v n f) {k : Nat} {o : Obj} (ho : X.heap[k]? = some o) (hc : ∀ cs fz, o ≠ .cells cs 5 fz) : v.ownBlock = none ∨ v.ownBlock ≠ some k := by
  rcases h.2 with ⟨rfl, _⟩ | ⟨g, cap, cur, rfl, _, hgb, _⟩
  · exact .inl rfl
  · refine .inr fun e' => ?_
    obtain rfl : g = k := by simpa [Value.ownBlock] using e'
    rw [hgb] at ho
    cases ho
    exact hc _ _ rfl
theorem info28 : (Tryd.prog.info? 28).map (fun i => (i.zero, i.size, i.bytes)) = some (some (.agg #[.int .i64 0, .slice none 0 0]), 2, 32) := by kernel_rfl
theorem rows_own : Own (fun (pre : List Rc) W => ∀ x ∈ pre, OB W 0 (.slice x.ao x.s x.c) x.s x.pay) := by
  rintro pre X Y row h hg hrow x hx
  have hX := h x hx
  refine hX.grown hg ?_
  rcases hX.2 with ⟨e1, e2⟩ | ⟨g, cap, cur, e, _, hgb, _⟩
  · exact .inl (by first | (rw [e1]; rfl) | (rw [e2]; rfl))
  · refine .inr fun e' => ?_
    obtain ⟨o, ho, hc⟩ := hrow g (by rw [← e', e]; rfl)
    rw [hgb] at ho; cases ho; cases hc
theorem KeepR.b {n₀ Bb Bm : Nat} {w : World} (hn : n₀ ≤ w.heap.size) (h1 : Bb < w.heap.size) (h2 : Bm < w.heap.size) (W : World) (l : Nat) (o o' : Obj) (hl : w.heap.size ≤ l) (h : W.heap[l]? = some o) (hc : o.isCells = false) (hw : o.isWalk = false) : KeepR n₀ Bb Bm W (W.putObj l o') :=
  ⟨belowK_b hn W l o o' hl h hc hw, (belowK_b (n₀ := w.heap.size) (Nat.le_refl _) W l o o' hl h hc hw).block _ h1, (belowK_b (n₀ := w.heap.size) (Nat.le_refl _) W l o o' hl h hc hw).block _ h2⟩
theorem keepsFrom_of_below' {B : Nat} {W W' : World} (h : Below W.heap.size W W') : KeepsFrom B W W' :=
  ⟨h.size, fun k o _ hk _ => (h.block k (Array.getElem?_eq_some_iff.1 hk).1).trans hk⟩
theorem cells_two (W : World) (t : TypeId) (a b : Value) (j : Nat) (u : Value) (h : [a, b][j]? = some u) : (W.alloc (.cells #[a, b] t)).cell? ((⟨W.heap.size, 0, none⟩ : Addr).add j) = some u := by
  rw [Addr.add_lit, Nat.zero_add, (has_new W t #[a, b]).at_ j]
  simpa using h
theorem OB.apart {X : World} {base base' n k size : Nat} {e : TypeId} {v u : Value} {f : Nat → Nat} {xs : List Value} (h : OB X base v n f) (hr : X.ownsRow base' e size u k xs) (he : e ≠ 5) : v.ownBlock = none ∨ v.ownBlock ≠ u.ownBlock := by
  rcases hr.2 with ⟨rfl, _⟩ | ⟨g, cap, cur, rfl, _, hgb, _⟩
  · exact Classical.em _
  · exact h.off hgb (fun cs fz h' => by cases h'; exact he rfl)
theorem OB.boxed {X : World} {base n B : Nat} {t : TypeId} {v u u' : Value} {f : Nat → Nat} (h : OB X base v n f) (hb : Boxed X B t u) (ht : t ≠ 5) : OB (X.setCell ⟨B, 0, none⟩ u') base v n f :=
  h.grown (grownBy_setCell' X B u') (h.off hb (fun cs fz h' => by cases h'; exact ht rfl))
set_option maxRecDepth 100000 in
set_option maxHeartbeats 4000000 in
theorem all_c {n c : Nat} {ao : Option Addr} {g : Nat → Nat} {most : Int} {w : World} (hg : ∀ i, g i < 256) (hT : Tab w) (hB : By w ao n g) (hnc : n ≤ c) (hn : n ≤ 1099511627776) (hc47 : c ≤ 9223372036854775807) (hm1 : -9223372036854775808 ≤ most) (hm2 : most ≤ 9223372036854775807) :
    Calls Tryd.prog 14 #[.slice ao n c, .int .i64 most] w fun e w' => ∃ v xs, e = .returned (.tuple #[v, .int .i64 (sumE xs : Nat)]) ∧ xs.map Rc.tri = recsF most (n / 20) g n ∧ w'.ownsRow w.heap.size 28 2 v xs.length (cellsR xs) ∧
      (∀ x ∈ xs, OB w' 0 (.slice x.ao x.s x.c) x.s x.pay) ∧ sumE xs ≤ n ∧ Below w.heap.size w w' := by
  have HF := hid hg; have HT := hid hT; have HB := hid hB
  have h0 : 0 < w.heap.size := World.block_lt_of_cell? (a := ⟨0, 0, none⟩) w (hT 0 (by omega))
  have H0 := hid h0
  have HBL : Hid (0 < n → ∀ b off, ao = some ⟨b, off, none⟩ → b < w.heap.size) := fun h b off e => by
    obtain ⟨b', off', e', hb⟩ := hB.below h
    rw [e] at e'; cases e'; exact hb
  clear hg hT hB h0
  refine (callsIn_wide (n := 6)).1 ?_
  refine callsIn_of_wp_marks Tryd.func14 rfl trivial ?_ rfl
  simp only [Tryd.ntmps14, List.size_toArray, List.length_cons, List.length_nil, Nat.reduceAdd, Nat.reduceSub, Array.replicate_succ, Array.replicate_zero, List.push_toArray, List.append_toArray, List.nil_append, List.cons_append]
  gi_wp2_with (gi_at_call 24; refine (records_in _ _ _ _ _ _).mono ?_; rintro e w' ⟨rfl, rfl⟩)
  obtain ⟨W0, hW0⟩ : ∃ W0, W0 = ((((w.alloc (.cells #[.slice none 0 0] 38)).alloc (.cells #[.int .i64 0] 3)).alloc (.cells #[.slice ao n c] 22)).alloc (.cells #[.int .i64 most] 3)) := ⟨_, rfl⟩
  have bL : Boxed W0 w.heap.size 38 (.slice none 0 0) := by rw [hW0]; exact (((Boxed.new w _ _).alloc _).alloc _).alloc _
  have bE : Boxed W0 (w.heap.size + 1) 3 (.int .i64 0) := by
    rw [hW0]
    have h := ((Boxed.new (w.alloc (.cells #[.slice none 0 0] 38)) 3 (.int .i64 0)).alloc (.cells #[.slice ao n c] 22)).alloc (.cells #[.int .i64 most] 3)
    rwa [World.size_alloc] at h
  have bB : Boxed W0 (w.heap.size + 1 + 1) 22 (.slice ao n c) := by
    rw [hW0]
    have h := (Boxed.new ((w.alloc (.cells #[.slice none 0 0] 38)).alloc (.cells #[.int .i64 0] 3)) 22 (.slice ao n c)).alloc (.cells #[.int .i64 most] 3)
    rwa [World.size_alloc, World.size_alloc] at h
  have bM : Boxed W0 (w.heap.size + 1 + 1 + 1) 3 (.int .i64 most) := by
    rw [hW0]
    have h := Boxed.new (((w.alloc (.cells #[.slice none 0 0] 38)).alloc (.cells #[.int .i64 0] 3)).alloc (.cells #[.slice ao n c] 22)) 3 (.int .i64 most)
    rwa [World.size_alloc, World.size_alloc, World.size_alloc] at h
  have hB0 : Below w.heap.size w W0 := by
    rw [hW0]
    exact ((((Below.refl _ w).alloc (Nat.le_refl _) _).alloc (by simp) _).alloc (by simp; omega) _).alloc (by simp; omega) _
  have hsz : W0.heap.size = w.heap.size + 4 := by rw [hW0]; simp
  have rL : W0.ownsRow w.heap.size 28 2 (.slice none 0 0) 0 [] := World.ownsRow_nil _ _ _ _
  rw [← hW0]
  clear hW0
  have hseq : SeqPhi Fence.wide (6 - 1) Tryd.prog 33 #[.pointer (some ⟨w.heap.size + 1 + 1, 0, none⟩), .pointer (some ⟨w.heap.size + 1 + 1 + 1, 0, none⟩)] encR (PhiR n) (KeepR w.heap.size (w.heap.size + 1 + 1) (w.heap.size + 1 + 1 + 1)) (fun xs => xs.map Rc.tri = recsF most (n / 20) g n) (n / 20) W0 :=
    fun l J W hW hJ hY hj => records1_in (6 - 1) l (w.heap.size + 1 + 1) (w.heap.size + 1 + 1 + 1) w.heap.size n c ao g most (by omega) J W HF.out hnc hn hc47 hm1 hm2 (by have := hW.size; omega) H0.out (by have := hW.size; omega) (by have := hW.size; omega) hJ hY
      (Below.reads hW bB.cell) (Below.reads hW bM.cell) ((HT.out.bel hB0).bel hW) ((HB.out.bel hB0).bel hW) HBL.out hj
  refine range_phi rfl (by omega) (gf := 33) (lb := #[.pointer (some ⟨w.heap.size + 1 + 1, 0, none⟩), .pointer (some ⟨w.heap.size + 1 + 1 + 1, 0, none⟩)]) rfl trivial (enters_of Tryd.func33 (by kernel_rfl) rfl)
    hseq KeepR.t (KeepR.b (by omega) (by omega) (by omega)) (fun _ => rfl)
    (fun pre W => (∃ v, Boxed W w.heap.size 38 v ∧ W.ownsRow w.heap.size 28 2 v pre.length (cellsR pre) ∧ True) ∧ Boxed W (w.heap.size + 1) 3 (.int .i64 (sumE pre : Nat)) ∧ Boxed W (w.heap.size + 1 + 1) 22 (.slice ao n c) ∧ Boxed W (w.heap.size + 1 + 1 + 1) 3 (.int .i64 most) ∧
      (∀ x ∈ pre, OB W 0 (.slice x.ao x.s x.c) x.s x.pay) ∧ Below w.heap.size w W ∧ sumE pre ≤ n)
    (OwnFrom.and (Own.from (holdsRow_own _ _ _ _ _ (fun pre : List Rc => pre.length) cellsR (fun _ _ => True)) _) (OwnFrom.and (Own.from (boxed_own _ _ (fun pre : List Rc => .int .i64 (sumE pre : Nat))) _) (OwnFrom.and (Own.from (boxed_own _ _ _) _) (OwnFrom.and (Own.from (boxed_own _ _ _) _) (OwnFrom.and (Own.from rows_own _) (OwnFrom.and (ownFrom_below (Nat.le_refl _) (by omega)) (ownFrom_pure _ _)))))))
    ⟨⟨_, bL, rL, trivial⟩, bE, bB, bM, fun x hx => (by cases hx), hB0, Nat.zero_le _⟩
    (fun pre x a' W => ∃ Bx, w.heap.size + 1 + 1 + 1 < Bx ∧ Has W Bx 28 #[.int .i64 x.num, .slice x.ao x.s x.c] ∧ OB W 0 (.slice x.ao x.s x.c) x.s x.pay ∧ sumE pre + (x.s + 20) ≤ n ∧
      a' = { tmps := #[.slice ao n c, .int .i64 most, undef, undef, .slice none 0 0, .int .i64 0, .pointer (some ⟨w.heap.size, 0, none⟩), .pointer (some ⟨w.heap.size + 1, 0, none⟩), .pointer (some ⟨Bx, 0, none⟩), .int .i64 ((x.s + 20 : Nat) : Int), .slice ao n c, .int .i64 most,
        .func (.func 33) #[] #[.pointer (some ⟨w.heap.size + 1 + 1, 0, none⟩), .pointer (some ⟨w.heap.size + 1 + 1 + 1, 0, none⟩)], .agg #[.int .i64 x.num, .slice x.ao x.s x.c], .int .i64 ((x.s + 20 : Nat) : Int), undef, undef, undef, undef, undef, undef, undef, undef, undef], defers := [] })
    (fun pre x a' _ X Y row hs hg hr => by
      obtain ⟨Bx, h1, h2, h3, h4, h5⟩ := hs
      refine ⟨Bx, h1, (hg.block Bx h2.here (fun e => ?_)).trans h2, rows_own [x] X Y row (fun y hy => by cases List.mem_singleton.1 hy; exact h3) hg (fun r e => (hr r e).2) x (List.mem_singleton.2 rfl), h4, h5⟩
      obtain ⟨_, o, ho, hc⟩ := hr Bx e.symm
      obtain rfl := Option.some.inj (ho.symm.trans h2)
      cases hc)
    ?assign ?body ?done
  case assign =>
    rintro l pre x W K ⟨⟨v, hv, hrow, _⟩, hE, hBb, hBm, hrows, hBel, hsum⟩ ⟨hOx, hxs⟩ hK
    gi_wp2
    have hsW := hBel.size
    have kA : Below W.heap.size W (W.alloc (.cells #[.int .i64 x.num, .slice x.ao x.s x.c] 28)) := below_new _ _
    have hS := hBm.lt
    refine hK _ _ (keepsFrom_of_below' kA) (KeepR.of kA hsW (by omega) (by omega)) ⟨⟨v, hv.alloc _, hrow.alloc _, trivial⟩, hE.alloc _, hBb.alloc _, hBm.alloc _, fun y hy => (hrows y hy).grown (grown_of kA) (Classical.em _), hBel.trans (kA.mono hsW), hsum⟩ ⟨W.heap.size, by omega, has_new _ _ _, hOx.grown (grown_of kA) (Classical.em _), hxs, rfl⟩
  case body =>
    rintro l pre ⟨num, xo, xs, xc, pay⟩ a' W ⟨⟨v, hv, hrow, _⟩, hE, hBb, hBm, hrows, hBel, hsum⟩ ⟨Bx, hBx, hX, hOx, hxs, rfl⟩ hlt
    simp only at hX hOx hxs
    obtain ⟨A, eA⟩ : ∃ A, sumE pre = A := ⟨_, rfl⟩
    obtain ⟨k, ek⟩ : ∃ k, xs + 20 = k := ⟨_, rfl⟩
    have HSN : Hid (sumE (pre ++ [(⟨num, xo, xs, xc, pay⟩ : Rc)]) = A + k) := by unfold Hid; rw [sumE_snoc, eA, ← ek]
    have HCN := hid (cellsR_snoc pre ⟨num, xo, xs, xc, pay⟩)
    rw [eA] at hE hsum hxs
    rw [ek] at hxs
    simp only [ek]
    obtain ⟨T, eT⟩ : ∃ T, A + k = T := ⟨_, rfl⟩
    have hA : ((A : Nat) : Int) + ((k : Nat) : Int) = ((T : Nat) : Int) := by omega
    rw [eT] at HSN hxs
    have hT47 : T ≤ 1099511627776 := by omega
    clear eT
    have HSW : Hid (w.heap.size ≤ W.heap.size) := hBel.size
    have hlen : pre.length < 1099511627776 := by omega
    obtain ⟨i0, hi, hz0, hz1, hz2⟩ := info_parts info28
    have cv := hv.cell
    have x0 := hX.at_ 0
    have x1 := hX.at_ 1
    simp at x0 x1
    have HV := hid hv; have HROW := hid hrow; have HE := hid hE; have HBb := hid hBb; have HBm := hid hBm; have HROWS := hid hrows; have HBel := hid hBel; have HOx := hid hOx
    clear eA ek hv hrow hE hBb hBm hrows hBel hOx
    gi_wp2_with (gi_at_builtin; refine wpListIn_append_own _ rfl _ _ 38 rfl w.heap.size 28 i0 (.agg #[.int .i64 0, .slice none 0 0]) 2 32 Tryd.underlying38 hi hz0 hz1 hz2 rfl (by decide) _ pre.length (cellsR pre) rfl (HROW.out.alloc _) ⟨W.heap.size, 0, none⟩ 1 1 [.int .i64 num, .slice xo xs xc] rfl rfl (cells_two _ _ _ _) (by simp [Value.oneCell']) (by unfold maxLen; omega) (by omega) (by rw [World.size_alloc]; have := HSW.out; omega) ?_
                 intro v' w3 hown' hg3 hnil3
                 obtain ⟨g', cap', rfl⟩ := ownsRow_succ hown'
                 obtain ⟨p1, p2, p3, p4, p5⟩ := Boxed.appended HV.out (by decide) HROW.out HSW.out (Nat.le_refl _) hown' hg3
                 have q1 : Boxed w3 (w.heap.size + 1) 3 (.int .i64 (A : Nat)) := (HE.out.alloc _).kept hg3 (HE.out.not_row (by decide) HROW.out)
                 have q2 : Boxed w3 (w.heap.size + 1 + 1) 22 (.slice ao n c) := (HBb.out.alloc _).kept hg3 (HBb.out.not_row (by decide) HROW.out)
                 have q3 : Boxed w3 (w.heap.size + 1 + 1 + 1) 3 (.int .i64 most) := (HBm.out.alloc _).kept hg3 (HBm.out.not_row (by decide) HROW.out)
                 have b1 := p1.cell
                 have b2 := p1.frozen
                 have b3 := q1.cell
                 have b4 := q1.frozen
                 have HP1 := hid p1; have HP2 := hid p2; have HP3 := hid p3; have HP4 := hid p4; have HP5 := hid p5; have HQ1 := hid q1; have HQ2 := hid q2; have HQ3 := hid q3; have HG3 := hid hg3; have HOW := hid hown'
                 clear p1 p2 p3 p4 p5 q1 q2 q3 hg3 hown' hnil3)
    have q1' := HQ1.out.other (show w.heap.size + 1 ≠ w.heap.size by omega) (.slice (some ⟨g', 0, none⟩) (pre.length + 1) cap')
    have q2' := (HQ2.out.other (show w.heap.size + 1 + 1 ≠ w.heap.size by omega) (.slice (some ⟨g', 0, none⟩) (pre.length + 1) cap')).other (show w.heap.size + 1 + 1 ≠ w.heap.size + 1 by omega) (.int .i64 ((T : Nat) : Int))
    have q3' := (HQ3.out.other (show w.heap.size + 1 + 1 + 1 ≠ w.heap.size by omega) (.slice (some ⟨g', 0, none⟩) (pre.length + 1) cap')).other (show w.heap.size + 1 + 1 + 1 ≠ w.heap.size + 1 by omega) (.int .i64 ((T : Nat) : Int))
    have step : ∀ (y : Rc), OB W 0 (.slice y.ao y.s y.c) y.s y.pay → OB ((w3.setCell ⟨w.heap.size, 0, none⟩ (.slice (some ⟨g', 0, none⟩) (pre.length + 1) cap')).setCell ⟨w.heap.size + 1, 0, none⟩ (.int .i64 ((T : Nat) : Int))) 0 (.slice y.ao y.s y.c) y.s y.pay := fun y hy => by
      have h1 := hy.grown (World.grownBy_alloc W (.cells #[.int .i64 num, .slice xo xs xc] 28) none) (Classical.em _)
      have h2 := h1.grown HG3.out (h1.apart (HROW.out.alloc _) (by decide))
      exact (h2.boxed HP1.out (by decide)).boxed q1' (by decide)
    refine ⟨(HP4.out.trans (KeepsOthers.setCell _ _ _)).from _, ⟨HP5.out.setCell (p := ⟨w.heap.size + 1, 0, none⟩) (by show w.heap.size ≤ w.heap.size + 1; omega) _, (show _ = _ from q2').trans (show _ = _ from HBb.out).symm, (show _ = _ from q3').trans (show _ = _ from HBm.out).symm⟩, ⟨_, HP2.out.other (by omega) _, ?row⟩, ?e, q2', q3', ?rows, HBel.out.trans (HP5.out.setCell (p := ⟨w.heap.size + 1, 0, none⟩) (by show w.heap.size ≤ w.heap.size + 1; omega) _), ?sum⟩
    case row =>
      rw [HCN.out, List.length_append]
      exact HP3.out.kept (grownBy_setCell' _ _ _) (.inr (q1'.not_row (by decide) HP3.out).symm)
    case e =>
      rw [HSN.out]
      exact q1'.set _
    case rows =>
      intro y hy
      rcases List.mem_append.1 hy with h | h
      · exact step y (HROWS.out y h)
      · cases List.mem_singleton.1 h
        exact step _ HOx.out
    case sum => rw [HSN.out]; exact hxs
  case done =>
    rintro D ys W hD hS ⟨⟨v, hv, hrow, _⟩, hE, hBb, hBm, hrows, hBel, hsum⟩ hK
    have cv := hv.cell
    have cE := hE.cell
    have HS := hid hS; have HROW := hid hrow; have HROWS := hid hrows; have HBel := hid hBel; have HSUM := hid hsum; have HK := hid hK
    clear hS hrow hrows hBel hsum hv hE hBb hBm hK
    gi_wp2
    refine regIn_made (by kernel_rfl) (by kernel_rfl) (by kernel_rfl) ?_
    intro Ty hTT fw hf
    have y0 := Class.reads hf cv
    have y1 := Class.reads hf cE
    repeat (gi_big_quiet_step (fail))
    refine wpQuietIn_nil ?_
    rintro W2 hW2
    have k2 := hf.here hW2
    have HK2 : Hid (W2.heap[D]? = some (.deferred (some []))) := (k2.1.block D (Array.getElem?_eq_some_iff.1 HK.out).1).trans HK.out
    clear hW2 hf y0 y1
    gi_wp2
    refine ⟨by simp, .inl ⟨_, _, rfl, run_takeDeferred HK2.out, ?_⟩⟩
    have hg2 : W2.grownBy (W2.putObj D (.deferred none)) (some D) := grownBy_putObj' _ _ _
    refine ⟨.tuple #[v, .int .i64 (sumE ys : Nat)], by simp [results, Tryd.results14, go_sem], v, ys, rfl, HS.out, ?_, ?_, HSUM.out, ?_⟩
    · exact ownsRow_putObj (own_stays HROW.out k2) _ HK2.out rfl
    · intro x hx
      exact ((HROWS.out x hx).kept k2).grown hg2 (((HROWS.out x hx).kept k2).off HK2.out (fun cs fz h => by cases h))
    · exact (HBel.out.trans (k2.1.mono HBel.out.size)).trans (belowK_b (w := w) (Nat.le_refl _) W2 D _ _ (by omega) HK2.out rfl rfl)
end Go.Proofs.YtfkggnlefblniaaDoor.Fx
