/- Layer 16: FrameAlls. -/
import Derived.Test.YtfkggnlefblniaaDoorFrQ
import Derived.Test.YtfkggnlefblniaaDoorFrJ
import Derived.Test.YtfkggnlefblniaaDoorFrF
import Derived.Lib.AppendStr
namespace Go.Proofs.YtfkggnlefblniaaDoor.Fx
open Go.ChangeShapes Go.WideShapes Go.ChangeAt Go.RowKit
set_option linter.unusedVariables false

theorem PrsAt.bel {w u : World} {ao : Option Addr} {n : Nat} {f : Nat → Pr} (h : PrsAt w ao n f) (k : Below w.heap.size w u) : PrsAt u ao n f := fun hn => by
  obtain ⟨b, off, e, hc⟩ := h hn
  exact ⟨b, off, e, fun i hi => ⟨Below.reads k (hc i hi).1, Below.reads k (hc i hi).2⟩⟩
/-- bytes of a string appended to a row of one's own -/
theorem append_str {w : World} {base n m : Nat} {v : Value} {f g : Nat → Nat} (ty : TypeId) (hown : OB w base v n f) (hg : ∀ i, g i < 256) (h63 : n + m ≤ 1099511627776) (hbase : base ≤ w.heap.size) :
    ∃ v' w', (Builtin.append_ #[22, 9] ty #[v, .string (strB g m)]).run Tryd.prog w = .ok v' w' ∧ OB w' base v' (n + m) (joinB f g n) ∧ w.grownBy w' v.ownBlock := by
  obtain ⟨i, hi, hz0, hz1, hz2⟩ := info_parts info8
  obtain ⟨v', w', hr, h2, h3, _⟩ := Lib.run_append_own_string (P := Tryd.prog) w base 22 9 ty 5 i Tryd.underlying22 Tryd.underlying9 hi hz0 hz1 hz2 v n (bl f n) hown (strB g m) (by rw [strB_size]; unfold maxLen; omega) (by rw [strB_size]; omega) hbase
  refine ⟨v', w', hr, ?_, h3⟩
  rw [strB_size] at h2
  unfold OB
  rw [← bl_join]
  have e : Lib.strCells (strB g m) = bl g m := by
    unfold Lib.strCells bl
    refine List.ext_getElem? fun j => ?_
    rw [List.getElem?_map, List.getElem?_map]
    by_cases hj : j < m
    · have := strB_data g m j hj
      rw [Array.getElem?_toList, this, List.getElem?_range hj]
      have := hg j
      simp [UInt8.toNat_ofNat']
      omega
    · have hs : (strB g m).data.size = m := strB_size g m
      rw [List.getElem?_eq_none (by rw [Array.length_toList]; omega), List.getElem?_eq_none (by simp; omega)]
      rfl
  rw [e] at h2
  exact h2
theorem infoI : (Tryd.prog.info? 3).map (fun i => (i.zero, i.size, i.bytes)) = some (some (.int .i64 0), 1, 8) := by kernel_rfl
/-- one int appended to a row of one's own -/
theorem append_int {w : World} {base n : Nat} {v : Value} {xs : List Value} {b : Addr} {x : Int} {c : Nat} (ty : TypeId) (hown : w.ownsRow base 3 1 v n xs) (hc : w.cell? b = some (.int .i64 x)) (hn : n ≤ 1099511627776) (hbase : base ≤ w.heap.size) :
    ∃ v' w', (Builtin.append_ #[35, 35] ty #[v, .slice (some b) 1 c]).run Tryd.prog w = .ok v' w' ∧ w'.ownsRow base 3 1 v' (n + 1) (xs ++ [.int .i64 x]) ∧ w.grownBy w' v.ownBlock := by
  obtain ⟨i, hi, hz0, hz1, hz2⟩ := info_parts infoI
  obtain ⟨v', w', hr, h2, h3, _⟩ := run_append_own (P := Tryd.prog) w base 35 ty 3 i (.int .i64 0) 1 8 Tryd.underlying35 hi hz0 hz1 hz2 rfl (by omega) v n xs hown b 1 c [.int .i64 x] rfl (fun j u hj => by
    match j, hj with
    | 0, hj => cases hj; rw [add_zero8]; exact hc) (by simp [Value.oneCell']) (by unfold maxLen; omega) (by omega) hbase
  exact ⟨v', w', hr, h2, h3⟩
theorem World.ownsRow.other_type {X : World} {base base' n k s1 s2 : Nat} {e1 e2 : TypeId} {v u : Value} {xs ys : List Value} (h : X.ownsRow base e1 s1 v n xs) (hr : X.ownsRow base' e2 s2 u k ys) (he : e1 ≠ e2) : v.ownBlock = none ∨ v.ownBlock ≠ u.ownBlock := by
  rcases hr.2 with ⟨rfl, _⟩ | ⟨g, cap, cur, rfl, _, hgb, _⟩
  · exact Classical.em _
  · rcases h.2 with ⟨rfl, _⟩ | ⟨g', cap', cur', rfl, _, hgb', _⟩
    · exact .inl rfl
    · refine .inr fun e' => ?_
      obtain rfl : g' = g := by simpa [Value.ownBlock] using e'
      rw [hgb] at hgb'
      cases hgb'
      exact he rfl
theorem cellsR_at : ∀ {xs : List Rc} {j : Nat} {x : Rc}, xs[j]? = some x → (cellsR xs)[j * 2]? = some (.int .i64 x.num) ∧ (cellsR xs)[j * 2 + 1]? = some (.slice x.ao x.s x.c)
  | [], _, _, h => by cases h
  | y :: l, 0, x, h => by cases h; exact ⟨rfl, rfl⟩
  | y :: l, j + 1, x, h => by
    have h2 := cellsR_at (xs := l) (j := j) (x := x) (by simpa using h)
    rw [show (j + 1) * 2 = j * 2 + 1 + 1 by omega]
    exact h2
theorem slice_form' {W : World} {base size k : Nat} {e : TypeId} {v : Value} {xs : List Value} (h : W.ownsRow base e size v k xs) : ∃ ao c, v = .slice ao k c := by
  rcases h.2 with ⟨rfl, rfl⟩ | ⟨g, cap, cur, rfl, _⟩
  · exact ⟨none, 0, rfl⟩
  · exact ⟨_, _, rfl⟩
theorem row_cells {W : World} {base size k : Nat} {e : TypeId} {ao : Option Addr} {c : Nat} {xs : List Value} (h : W.ownsRow base e size (.slice ao k c) k xs) (hk : 0 < k) : ∃ g, ao = some ⟨g, 0, none⟩ ∧ k ≤ c ∧ c ≤ maxLen ∧ ∀ i x, xs[i]? = some x → W.cell? ⟨g, i, none⟩ = some x := by
  rcases h.2 with ⟨_, h0⟩ | ⟨g, cap, cur, e1, _, _, h1, h2, _⟩
  · omega
  · cases e1
    refine ⟨g, rfl, h1, h2, fun i x hx => ?_⟩
    have := h.cells (g := g) rfl i x hx
    rwa [Addr.add_lit, Nat.zero_add] at this
def thrF (i : Nat) : Nat := (i + 1) % 256
theorem thrF_lt (i : Nat) : thrF i < 256 := Nat.mod_lt _ (by omega)
theorem By.three (w : World) : By (w.alloc (.cells #[.int .u8 1, .int .u8 2, .int .u8 3] 5)) (some ⟨w.heap.size, 0, none⟩) 3 thrF := By.new _ _ _ _ (0, 0) fun i hi => by
  match i, hi with
  | 0, _ => rfl
  | 1, _ => rfl
  | 2, _ => rfl
theorem slice_h {bo : Option Addr} {T bc K : Nat} (h : K ≤ bc) (hb : ∀ x, bo = some x → x.spot = none) (u : World) : (Instr.slice 22 (.slice bo T bc) none (some (.int .i64 (K : Nat))) none).run Tryd.prog u = .ok (.slice bo K bc) u := by
  cases bo with
  | none => simp [go_sem, h]
  | some x => simp [go_sem, h]
set_option maxRecDepth 100000 in
set_option maxHeartbeats 8000000 in
theorem falls_walk {n c k ck : Nat} {ao ak : Option Addr} {f : Nat → Pr} {d : Nat → Nat} {cut : Int} {w : World} (hT : Tab w) (hA : PrsIn w ao n c f) (hK : ByIn w ak k ck d) :
    Calls Tryd.prog 4 #[.slice ao n c, .int .i64 cut, .slice ak k ck] w fun e w' => e = .returned (.bool true) ∧ Below w.heap.size w w' := by
  obtain ⟨hA, hI, hnc, hn63⟩ := hA
  obtain ⟨hD, hd, hkc, hkn⟩ := hK
  have HA := hid hA; have HT := hid hT; have HI := hid hI
  clear hA hT hI hD hd
  go_enter Tryd.func4, Tryd.ntmps4
  go_wp2_with fail
  refine (ffit_c HT.out).mono ?_
  rintro e w1 ⟨rfl, hw1⟩
  have HA1 := hid (HA.out.bel hw1)
  have HI1 : Hid (∀ i, i < n → NumI (f i).num ∧ By w1 (f i).ao (f i).m (f i).p ∧ (∀ t, (f i).p t < 256) ∧ (f i).m ≤ (f i).c ∧ (f i).m ≤ 9223372036854775807) := fun i hi => ⟨(HI.out i hi).1, (HI.out i hi).2.1.bel hw1, (HI.out i hi).2.2⟩
  have HT1 := hid (HT.out.bel hw1)
  have HW1 := hid hw1
  clear hw1 HA HT HI
  by_cases h1 : n > 12
  · go_wp2_with fail
    go_ret
    exact ⟨rfl, HW1.out⟩
  by_cases h2 : k > 200
  · go_wp2_with fail
    go_ret
    exact ⟨rfl, HW1.out⟩
  go_wp2_with fail
  go_loopg [7, 8, 34] n (fun g b e i wx => ∃ j, j + g = n ∧ i = .int .i64 (j : Nat) ∧ (∀ i, i < j → (f i).m ≤ 200) ∧ Hid (OB wx w1.heap.size b (tot f j) (catR f j)) ∧ Hid (wx.ownsRow w1.heap.size 3 1 e j (endsL f j)) ∧ Hid (Below w1.heap.size w1 wx))
  case atStart => exact ⟨0, by omega, by first | rfl | trivial, fun i hi => absurd hi (by omega), OB.nil _ _ _, World.ownsRow_nil _ _ _ _, Below.refl _ _⟩
  case round =>
    obtain ⟨j, hj, rfl, hm, HO, HE, HB⟩ := hrel
    by_cases hlt : j < n
    · obtain ⟨pb, off, rfl, hc⟩ := HA1.out (by omega)
      have c0 := Below.reads HB.out (hc j hlt).1
      have c1 := Below.reads HB.out (hc j hlt).2
      obtain ⟨hNI, hBy, hP, hmc, hm63⟩ := HI1.out j hlt
      have HM := hid hm
      obtain ⟨X, eX⟩ : ∃ X, (f j).num = X := ⟨_, rfl⟩
      obtain ⟨xo, exo⟩ : ∃ X, (f j).ao = X := ⟨_, rfl⟩
      obtain ⟨xm, exm⟩ : ∃ X, (f j).m = X := ⟨_, rfl⟩
      obtain ⟨xc, exc⟩ : ∃ X, (f j).c = X := ⟨_, rfl⟩
      obtain ⟨xp, exp⟩ : ∃ X, (f j).p = X := ⟨_, rfl⟩
      have HTJ : Hid (tot f (j + 1) = tot f j + (xm + 20)) := by unfold Hid; rw [← exm]; rfl
      have HCJ : Hid (catR f (j + 1) = joinB (catR f j) (recF xp xm (posF X)) (tot f j)) := by unfold Hid; rw [← exm, ← exp, ← eX]; rfl
      have HMJ : Hid (xm ≤ 200 → ∀ i, i < j + 1 → (f i).m ≤ 200) := fun h i hi => by
        by_cases e : i = j
        · subst e; omega
        · exact HM.out i (by omega)
      have HTL : Hid (tot f j ≤ 220 * j) := tot_le f j HM.out
      rw [eX] at c0
      rw [exo, exm, exc] at c1
      rw [exo, exm, exp] at hBy
      rw [exm] at hm63 hmc
      rw [exp] at hP
      have HP := hid hP
      have hNI1 := hNI.1
      have hNI2 := hNI.2
      rw [eX] at hNI1 hNI2
      have HBy := hid (hBy.bel HB.out)
      have HT2 := hid (HT1.out.bel HB.out)
      clear hm hNI hBy hP eX exo exm exc exp hc
      obtain ⟨V, eV⟩ : ∃ V, V = wr.alloc (.cells #[.int .i64 X, .slice xo xm xc] 37) := ⟨_, rfl⟩
      obtain ⟨G, eG⟩ : ∃ G, wr.heap.size = G := ⟨_, rfl⟩
      have KV : Made wr.heap.size wr V := by rw [eV]; exact (Made.rfl_ _ _).cells (Nat.le_refl _) _ _
      have PV : Hid (Has V G 37 #[.int .i64 X, .slice xo xm xc]) := by unfold Hid; rw [eV, ← eG]; exact has_new _ _ _
      have OV := hid (HO.out.kept KV)
      have EV : Hid (V.ownsRow w1.heap.size 3 1 _ j (endsL f j)) := own_stays HE.out KV
      have BV : Hid (Below w1.heap.size w1 V) := HB.out.trans (KV.1.mono HB.out.size)
      have TV := hid (HT2.out.kept KV)
      have YV := hid (HBy.out.kept KV)
      have z0 := PV.out.at_ 0
      have z1 := PV.out.at_ 1
      simp at z0 z1
      clear KV HO HE HT2 HBy
      go_upto_region 10 with fail
      try rw [eG]
      rw [← eV]
      clear eV eG c0 c1
      by_cases hbig : xm > 200
      · go_wp2_with fail
        go_ret
        exact ⟨rfl, HW1.out.trans (BV.out.mono HW1.out.size)⟩
      go_upto_region 12 with fail
      have hx200 : xm ≤ 200 := by omega
      have hm32 : xm ≤ 4294967295 := by omega
      obtain ⟨N, eN⟩ : ∃ N, posF X = N := ⟨_, rfl⟩
      have hN1 : -9223372036854775808 ≤ N := by rw [← eN]; have := (posF_rg X).1; omega
      have hN2 : N ≤ 9223372036854775807 := by rw [← eN]; have := (posF_rg X).2; omega
      have EN := hid eN
      obtain ⟨XS, eXS⟩ : ∃ S, strB (recF xp xm N) (xm + 20) = S := ⟨_, rfl⟩
      have EXS := hid eXS
      rw [eN] at HCJ
      clear eN eXS
      refine reg_below_tail 7 (by kernel_rfl) (by kernel_rfl) ?_
      intro T hTT fw hfw
      have x0 := hfw.reads z0
      have x1 := hfw.reads z1
      have H1 := hid (fun t => hfw.same (x := t) ((number_c (n := X) (w := fw t)).mono fun e w' h => by rw [EN.out] at h; exact h))
      have H2 := hid (fun t => hfw.below (x := t) ((laid_c (c := xc) (n := N) HP.out (TV.out.bel (hfw.1 t)) (YV.out.bel (hfw.1 t)) hm32 hN1 hN2).mono fun e w' h => by rw [EXS.out] at h; exact h))
      simp only [List.take_succ_cons, List.take_zero, List.drop_succ_cons, List.drop_zero]
      repeat (go_big_quiet_step ((first
        | (go_at_call 9; with_reducible exact H1.out _)
        | (go_at_call 11; with_reducible exact H2.out _))))
      refine wpQuiet_nil ?_
      intro w5 h5
      have k5 := hfw.here h5
      have hO5 := OV.out.grown (grown_of k5) (Classical.em _)
      have hE5 : w5.ownsRow w1.heap.size 3 1 _ j (endsL f j) := EV.out.kept (grown_of k5) (Classical.em _)
      have B5 : Below w1.heap.size w1 w5 := BV.out.trans (k5.mono BV.out.size)
      obtain ⟨v6, w6, hr6, hO6, hg6⟩ := append_str (g := recF xp xm N) (m := xm + 20) 22 hO5 (recF_lt HP.out _ _) (by have := HTL.out; omega) B5.size
      have B6 : Below w1.heap.size w1 w6 := B5.grown hg6 B5.size (fun b hb => (hO5.lt b hb).1)
      have hE6 := World.ownsRow.kept hE5 hg6 (World.ownsRow.other_type hE5 hO5 (by decide))
      obtain ⟨T1, eT1⟩ : ∃ T1, tot f (j + 1) = T1 := ⟨_, rfl⟩
      have eT2 : tot f j + (xm + 20) = T1 := by rw [← eT1, HTJ.out]
      have ET1 := hid eT1
      rw [← HCJ.out, eT2] at hO6
      rw [EXS.out] at hr6
      obtain ⟨o6, c6, rfl, hc6, hc62, _⟩ := hO6.shape
      have hT1 : T1 ≤ 1099511627776 := by have := HTL.out; omega
      have HR6 := hid hr6; have HO6 := hid hO6; have HE6 := hid hE6; have HB6 := hid B6
      have HMJ2 := hid (HMJ.out hx200)
      obtain ⟨W7, eW7⟩ : ∃ W, W = w6.alloc (.cells #[Value.int .i64 (T1 : Nat)] 3) := ⟨_, rfl⟩
      have K7 : Made w6.heap.size w6 W7 := by rw [eW7]; exact (Made.rfl_ _ _).cells (Nat.le_refl _) _ _
      have c7 : W7.cell? ⟨w6.heap.size, 0, none⟩ = some (.int .i64 (T1 : Nat)) := by rw [eW7]; exact (has_new w6 _ _).at_ 0
      obtain ⟨v8, w8, hr8, hE8, hg8⟩ := append_int (c := 1) 35 (own_stays hE6 K7) c7 (by omega) (Nat.le_trans B6.size K7.1.size)
      have hO7 := hO6.kept K7
      have hE7 : W7.ownsRow w1.heap.size 3 1 _ j (endsL f j) := own_stays hE6 K7
      have hO8 := hO7.grown hg8 (hO7.apart hE7 (by decide))
      have B8 : Below w1.heap.size w1 w8 := (B6.trans (K7.1.mono B6.size)).grown hg8 (Nat.le_trans B6.size K7.1.size) (fun b hb => (hE7.lt b hb).1)
      have hE9 : w8.ownsRow w1.heap.size 3 1 v8 (j + 1) (endsL f (j + 1)) := by rw [endsL_snoc, ET1.out]; exact hE8
      rw [eW7] at hr8
      have HR8 := hid hr8; have HO8 := hid hO8; have HE9 := hid hE9; have HB8 := hid B8
      clear h5 k5 hfw x0 x1 H1 H2 hO5 hE5 B5 hr6 hO6 hE6 B6 hg6 eT1 eT2 eW7 K7 c7 hr8 hE8 hg8 hO7 hE7 hO8 hE9 B8 z0 z1 PV OV EV BV TV YV hc6 hc62
      go_wp2_with (at_builtin; first
        | refine Lib.wpList_append_run _ rfl _ _ _ _ rfl _ _ rfl rfl _ _ HR6.out ?_
        | refine Lib.wpList_append_run _ rfl _ _ _ _ rfl _ _ rfl rfl _ _ HR8.out ?_)
      go_roundg (n - j - 1)
      case rel => exact ⟨j + 1, by omega, by go_num, HMJ2.out, by rw [ET1.out]; exact HO8.out, HE9.out, HB8.out⟩
      case measure => omega
    · obtain rfl : j = n := by omega
      revert hm HO HE HB
      generalize wr = wa
      intro hm HO HE HB
      have HM := hid hm
      have HTL : Hid (tot f j ≤ 220 * j) := tot_le f j HM.out
      have HPL : Hid (∀ i, i < j → ∀ t, (f i).p t < 256) := fun i hi => (HI1.out i hi).2.2.1
      have HCL : Hid (∀ i, catR f j i < 256) := catR_lt j HPL.out
      have HMM : Hid (∀ i, i < j → ((f i).m : Int) ≤ 200 ∧ (f i).m < 4294967296) := fun i hi => by have := HM.out i hi; exact ⟨by omega, by omega⟩
      obtain ⟨bo, bc, rfl, hbc, hbc2, hbs⟩ := HO.out.shape
      unfold maxLen at hbc2
      obtain ⟨TT, eT⟩ : ∃ TT, tot f j = TT := ⟨_, rfl⟩
      have ET := hid eT
      rw [eT] at HTL hbc
      have hT0 : TT ≤ 2640 := by have := HTL.out; omega
      have HB1 : Hid (By wa bo TT (catR f j)) := by have h := HO.out.by_; rw [eT] at h; exact h
      rw [eT]
      have HT2 := hid (HT1.out.bel HB.out)
      have HPA : Hid (PrsAt wa ao j f) := HA1.out.bel HB.out
      have HPB : Hid (∀ i, i < j → By wa (f i).ao (f i).m (f i).p) := fun i hi => (HI1.out i hi).2.1.bel HB.out
      have HW2 : Hid (Below w.heap.size w wa) := HW1.out.trans (HB.out.mono HW1.out.size)
      obtain ⟨eo, ec, rfl⟩ := slice_form' HE.out
      -- region 15
      obtain ⟨v2, w2, hr2, hO2, hM2⟩ := append_copy (c := bc) 22 HB1.out (by omega)
      obtain ⟨V3, eV3⟩ : ∃ V, V = w2.alloc (.cells #[.int .u8 1, .int .u8 2, .int .u8 3] 5) := ⟨_, rfl⟩
      have K3 : Made w2.heap.size w2 V3 := by rw [eV3]; exact (Made.rfl_ _ _).cells (Nat.le_refl _) _ _
      have Y3 : By V3 (some ⟨w2.heap.size, 0, none⟩) 3 thrF := by rw [eV3]; exact By.three w2
      obtain ⟨v4, w4, hr4, hO4, hg4, hz4⟩ := append_by (c := 3) 22 (hO2.kept K3) Y3 (by omega) (Nat.le_trans hM2.1.size K3.1.size)
      have M4 : Made wa.heap.size wa w4 := (hM2.then_ (K3.low hM2.1.size)).app hg4 hz4 (Nat.le_trans hM2.1.size K3.1.size) (fun b hb => ((hO2.kept K3).lt b hb).1)
      obtain ⟨o4, c4, rfl, hc4, hc42, _⟩ := hO4.shape
      unfold maxLen at hc42
      rw [eV3] at hr4
      have HR2 := hid hr2; have HR4 := hid hr4
      have HY4 := hid hO4.by_
      have HT4 := hid (HT2.out.kept M4)
      have HM4 := hid M4
      have HGL : Hid (∀ i, joinB (catR f j) thrF TT i < 256) := joinB_lt HCL.out thrF_lt TT
      have HG : Hid (∀ i, i < tot f j → joinB (catR f j) thrF TT i = catR f j i) := fun i hi => by unfold joinB; rw [if_pos (by rw [← ET.out]; exact hi)]
      have HRE : Hid (recsF 200 ((TT + 3) / 20) (joinB (catR f j) thrF TT) (TT + 3) = (List.range j).map (triP f (joinB (catR f j) thrF TT))) :=
        recs_end (n := j) HPL.out HMM.out (Nat.le_refl _) (by rw [ET.out]; omega) (fun h => absurd h (by omega)) (fun _ => by rw [ET.out]; omega) (fun i _ hi => HG.out i hi)
      clear hr2 hO2 hM2 eV3 K3 Y3 hr4 hO4 hg4 hz4 M4 hbs eT hm
      go_upto_region 15 with fail
      go_wp2_with (at_builtin; first
        | refine Lib.wpList_append_run _ rfl _ _ _ _ rfl _ _ rfl rfl _ _ HR2.out ?_
        | refine Lib.wpList_append_run _ rfl _ _ _ _ rfl _ _ rfl rfl _ _ HR4.out ?_)
      refine (all_c (most := 200) HGL.out HT4.out HY4.out hc4 (by omega) hc42 (by omega) (by omega)).mono ?_
      rintro e w5 ⟨v5, xs, rfl, hxs, hrow, hrows, hsum, hBel⟩
      rw [HRE.out] at hxs
      have hxl : xs.length = j := by have h := congrArg List.length hxs; simpa using h
      have hsE : sumE xs = TT := by rw [sumE_tri, hxs, sum_triP, ET.out]
      have HXS := hid hxs
      have HROW : Hid (w5.ownsRow w4.heap.size 28 2 v5 j (cellsR xs)) := by rw [hxl] at hrow; exact hrow
      have HROWS := hid hrows
      obtain ⟨ao5, c5, rfl⟩ := slice_form' HROW.out
      have HB5 : Hid (Below wa.heap.size wa w5) := HM4.out.1.trans (hBel.mono HM4.out.1.size)
      rw [hsE]
      have hjj : ((j : Int) != (j : Int)) = false := by simp
      have hTT : ((TT : Int) != (TT : Int)) = false := by simp
      clear hxs hrow hrows hsum hBel hxl hsE HR2 HR4
      go_wp2_with fail
      go_loopg [77] j (fun g i wx => ∃ a, a + g = j ∧ i = .int .i64 (a : Nat) ∧ Hid (Made w5.heap.size w5 wx))
      case atStart => exact ⟨0, by omega, by first | rfl | trivial, Made.rfl_ _ _⟩
      case round =>
        obtain ⟨a, ha, rfl, HM5⟩ := hrel
        by_cases hlt2 : a < j
        · obtain ⟨xo, xc, hxa⟩ := tri_at HXS.out hlt2
          obtain ⟨g7, rfl, hjc, _, hcells⟩ := row_cells HROW.out (by omega)
          have hca := cellsR_at hxa
          obtain ⟨N, eN⟩ : ∃ N, posF (f a).num = N := ⟨_, rfl⟩
          obtain ⟨X, eX⟩ : ∃ X, (f a).num = X := ⟨_, rfl⟩
          obtain ⟨xm, exm⟩ : ∃ X, (f a).m = X := ⟨_, rfl⟩
          obtain ⟨po, epo⟩ : ∃ X, (f a).ao = X := ⟨_, rfl⟩
          obtain ⟨pc, epc⟩ : ∃ X, (f a).c = X := ⟨_, rfl⟩
          obtain ⟨Z, eZ⟩ : ∃ Z, strB (f a).p xm = Z := ⟨_, rfl⟩
          obtain ⟨pb, off, rfl, hpc⟩ := HPA.out (by omega)
          have p0 := HM5.out.reads (Below.reads HB5.out (hpc a hlt2).1)
          have p1 := HM5.out.reads (Below.reads HB5.out (hpc a hlt2).2)
          have r0 := HM5.out.reads (hcells _ _ hca.1)
          have r1 := HM5.out.reads (hcells _ _ hca.2)
          simp only at r0 r1
          have hpay := (HROWS.out _ (List.mem_of_getElem? hxa)).kept HM5.out
          have hpart := ((HPB.out a hlt2).bel HB5.out).kept HM5.out
          have HEN : Hid (posF X = N) := by unfold Hid; rw [← eX, eN]
          have hN1 : 0 ≤ N := by rw [← eN]; exact (posF_rg _).1
          have hN2 : N < 4611686018427387904 := by rw [← eN]; exact (posF_rg _).2
          rw [eN] at r0
          rw [exm] at r1
          rw [eX] at p0
          rw [epo, exm, epc] at p1
          have HPY : Hid (strB (payF fun t => joinB (catR f j) thrF TT (tot f a + t)) xm = Z) := by
            unfold Hid
            rw [← eZ, ← exm]
            exact strB_congr _ (tri_pay hlt2 HG.out)
          simp only at hpay
          rw [exm] at hpay
          rw [epo, exm] at hpart
          have HPAY := hid hpay.by_
          have HPART := hid hpart
          have EZ := hid eZ
          obtain ⟨V, eV⟩ : ∃ V, V = wr.alloc (.cells #[.int .i64 N, .slice xo xm xc] 28) := ⟨_, rfl⟩
          obtain ⟨G, eG⟩ : ∃ G, wr.heap.size = G := ⟨_, rfl⟩
          have KV : Made wr.heap.size wr V := by rw [eV]; exact (Made.rfl_ _ _).cells (Nat.le_refl _) _ _
          have PV : Hid (Has V G 28 #[.int .i64 N, .slice xo xm xc]) := by unfold Hid; rw [eV, ← eG]; exact has_new _ _ _
          have z0 := PV.out.at_ 0
          have z1 := PV.out.at_ 1
          have y0 := KV.reads p0
          have y1 := KV.reads p1
          simp at z0 z1
          have HQ1 := hid (HPAY.out.kept KV)
          have HQ2 := hid (HPART.out.kept KV)
          have HMV := hid (HM5.out.then_ (KV.low HM5.out.1.size))
          clear hxa hca hcells eN eX exm epo epc eZ hpc hpay hpart KV PV HPAY HPART HM5
          go_upto_region 21 with fail
          try rw [eG]
          rw [← eV]
          clear eV eG p0 p1 r0 r1
          refine reg_made (by kernel_rfl) (by kernel_rfl) ?_
          intro T hTT fw hfw
          have q1 : ∀ t, (convert 22 9 (.slice xo xm xc)).run Tryd.prog (fw t) = .ok (.string Z) (fw t) := fun t => by rw [← HPY.out]; exact conv_by (HQ1.out.kept (hfw.1 t))
          have q2 : ∀ t, (convert 22 9 (.slice po xm pc)).run Tryd.prog (fw t) = .ok (.string Z) (fw t) := fun t => by rw [← EZ.out]; exact conv_by (HQ2.out.kept (hfw.1 t))
          have u0 := Class.reads hfw z0
          have u1 := Class.reads hfw z1
          have u2 := Class.reads hfw y0
          have u3 := Class.reads hfw y1
          have H1 := hid (fun t => hfw.same (x := t) ((number_c (n := X) (w := fw t)).mono fun e w' h => by rw [HEN.out] at h; exact h))
          have hnn : ((N : Int) != (N : Int)) = false := by simp
          have hzz : (Z.toList != Z.toList) = false := by simp
          have haj : ((a : Nat) : Int) < ((j : Nat) : Int) := by omega
          repeat (go_big_quiet_step (first | (go_at_call 9; with_reducible exact H1.out _) | rfl))
          refine wpQuiet_nil ?_
          intro w7 h7
          have k7 := hfw.here h7
          have HM7 := hid (HMV.out.then_ (k7.low HMV.out.1.size))
          clear h7 k7 hfw u0 u1 u2 u3 q1 q2 z0 z1 y0 y1 H1 HQ1 HQ2 HMV
          go_wp2_with fail
          go_roundg (j - a - 1)
          case rel => exact ⟨a + 1, by omega, by go_num, HM7.out⟩
          case measure => omega
        · obtain rfl : a = j := by omega
          have B6 : Below wa.heap.size wa wr := HB5.out.trans (HM5.out.1.mono HB5.out.size)
          obtain ⟨A, eA⟩ : ∃ A : Nat, cut % 65536 = (A : Int) := ⟨(cut % 65536).toNat, by omega⟩
          have ha2 := (show bits .and .i64 cut 65535 = cut % 65536 from cand_low cut 16 (by omega)).trans eA
          obtain ⟨T1, eT1⟩ : ∃ T1, TT + 1 = T1 := ⟨_, rfl⟩
          have hT1 : (TT : Int) + 1 = (T1 : Int) := by omega
          obtain ⟨K, eK⟩ : ∃ K, A % T1 = K := ⟨_, rfl⟩
          have ek2 : (A : Int) % (T1 : Int) = (K : Int) := by rw [← eK]; omega
          have ek3 : (A : Int).tmod (T1 : Int) = (K : Int) := by rw [Int.tmod_eq_emod_of_nonneg (by omega)]; exact ek2
          have hn0 : (T1 : Int) ≠ 0 := by omega
          have hnb : ((T1 : Int) == 0) = false := by simp; omega
          have hKT : K ≤ TT := by have : K < T1 := by rw [← eK]; exact Nat.mod_lt _ (by omega)
                                  omega
          obtain ⟨q, hq1, hq2, hq3⟩ := count_ends f K a
          have HQ1 := hid hq1; have HQ2 := hid hq2; have HQ3 := hid hq3
          have HRE2 : Hid (recsF 200 (K / 20) (catR f a) K = (List.range q).map (triP f (catR f a))) :=
            recs_end (n := a) HPL.out HMM.out hq1 hq2 hq3 (fun h => by rw [h, ET.out]; omega) (fun i _ _ => rfl)
          have HY6 := hid ((HB1.out.bel B6).take hKT)
          have HT6 := hid (HT2.out.bel B6)
          have hKc : K ≤ bc := by omega
          have hsl := slice_h (T := TT) hKc (bo := bo) (fun x hx => by
            rcases HO.out.2 with ⟨e, _⟩ | ⟨g, cap, cur, e, _⟩
            · injection e with e1 e2 e3; rw [e1] at hx; cases hx
            · injection e with e1 e2 e3; rw [e1] at hx; cases hx; rfl)
          have HB6 := hid B6
          clear eA eT1 eK hq1 hq2 hq3 B6
          go_upto_region 25 with fail
          go_wp2_with fail
          refine (all_c (most := 200) HCL.out HT6.out HY6.out hKc (by omega) (by omega) (by omega) (by omega)).mono ?_
          rintro e w8 ⟨v8, xs2, rfl, hxs, hrow, hrows, hsum, hBel⟩
          rw [HRE2.out] at hxs
          have hxl : xs2.length = q := by have h := congrArg List.length hxs; simpa using h
          have hsE : sumE xs2 = tot f q := by rw [sumE_tri, hxs, sum_triP]
          obtain ⟨ao8, c8, rfl⟩ := slice_form' hrow
          have HB8 : Hid (Below wa.heap.size wa w8) := HB6.out.trans (hBel.mono HB6.out.size)
          have HE8 : Hid (w8.ownsRow w1.heap.size 3 1 (.slice eo a ec) a (endsL f a)) := HE.out.kept (grown_of HB8.out) (Classical.em _)
          obtain ⟨TQ, eTQ⟩ : ∃ T, tot f q = T := ⟨_, rfl⟩
          have ETQ := hid eTQ
          rw [hxl, hsE, eTQ]
          have hqa : q ≤ a := HQ1.out
          clear hxs hrow hrows hsum hBel hxl hsE eTQ hsl
          go_wp2_with fail
          go_loopg [18, 19, 119] a (fun g nn ww i wx => ∃ b m, b + g = a ∧ i = .int .i64 (b : Nat) ∧ nn = .int .i64 (m : Nat) ∧ ww = .int .i64 (tot f m : Nat) ∧ m ≤ b ∧ Hid (m = min q b) ∧ Hid (w8 = wx))
          case atStart => exact ⟨0, 0, by omega, by first | rfl | trivial, rfl, rfl, Nat.le_refl _, by unfold Hid; omega, rfl⟩
          case round =>
            obtain ⟨b, m, hb, rfl, rfl, rfl, hmb, HMQ, HW⟩ := hrel
            have hW := HW.out
            subst hW
            obtain ⟨TM, eTM⟩ : ∃ T, tot f m = T := ⟨_, rfl⟩
            by_cases hlt3 : b < a
            · obtain ⟨ge, rfl, _, _, hec⟩ := row_cells HE8.out (by omega)
              have c0 := hec b _ (endsL_at hlt3)
              have HLE := hid (ends_le (j := b) HQ1.out HQ2.out HQ3.out hlt3)
              obtain ⟨E, eE⟩ : ∃ E, tot f (b + 1) = E := ⟨_, rfl⟩
              have EE := hid eE
              rw [eE] at c0 HLE
              have ETM := hid eTM
              rw [eTM]
              clear hec eE eTM
              by_cases hle : E ≤ K
              · have HM1 : Hid (m + 1 = b + 1 ∧ b + 1 ≤ q) := by have h1 := HLE.out.1 hle; have h2 := HMQ.out; unfold Hid; omega
                have d1 : decide ((E : Int) ≤ (K : Int)) = true := decide_eq_true (by omega)
                go_wp2_with fail
                go_roundg (a - b - 1)
                case rel => exact ⟨b + 1, m + 1, by omega, by go_num, by go_num, by rw [HM1.out.1, EE.out], by omega, by have := HM1.out; unfold Hid; omega, rfl⟩
                case measure => omega
              · have HM1 : Hid (¬ b + 1 ≤ q) := fun h => hle (HLE.out.2 h)
                have d1 : decide ((E : Int) ≤ (K : Int)) = false := decide_eq_false (by omega)
                go_wp2_with fail
                go_roundg (a - b - 1)
                case rel => exact ⟨b + 1, m, by omega, by go_num, rfl, by rw [ETM.out], by omega, by have h1 := HM1.out; have h2 := HMQ.out; unfold Hid; omega, rfl⟩
                case measure => omega
            · have hm2 : m = q := by have := HMQ.out; omega
              subst hm2
              have hTM : TM = TQ := by rw [← eTM, ETQ.out]
              subst hTM
              rw [eTM]
              have hmm : ((m : Int) == (m : Int)) = true := by simp
              have hll : ((TM : Int) == (TM : Int)) = true := by simp
              have HE9 : Hid (Below w.heap.size w w8) := HW2.out.trans (HB8.out.mono HW2.out.size)
              clear eTM
              go_wp2_with fail
              go_ret
              exact ⟨rfl, HE9.out⟩
end Go.Proofs.YtfkggnlefblniaaDoor.Fx
