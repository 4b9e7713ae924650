/- Package disk: New, Crash. -/
import Derived.Test.YtdaelblapgcljaaDkU
namespace Go.Proofs.Ytdaelblapgcljaa.Fx
open Go.ChangeShapes Go.WideShapes Go.ChangeAt Go.RowKit Go.Maps
set_option linter.unusedVariables false

theorem cutL_ids : ∀ (l : List Fil) (ks : List Int), (cutL l ks).map (·.id) = l.map (·.id)
  | [], _ => rfl
  | f :: l, ks => by
    show (cut1 f ks).id :: (cutL l (cutR f ks)).map (·.id) = _
    rw [cut1_id, cutL_ids l]; rfl
theorem cutL_mem : ∀ {l : List Fil} {ks : List Int} {g : Fil}, g ∈ cutL l ks → ∃ f ∈ l, ∃ ks', g = cut1 f ks'
  | f :: l, ks, g, h => by
    rcases List.mem_cons.1 (show g ∈ cut1 f ks :: cutL l (cutR f ks) from h) with rfl | h
    · exact ⟨f, by simp, ks, rfl⟩
    · obtain ⟨f', hf', r⟩ := cutL_mem h
      exact ⟨f', List.mem_cons_of_mem _ hf', r⟩
theorem cutL_file {l : List Fil} {f : Fil} (ks : List Int) (h : f ∈ l) : ∃ g ∈ cutL l ks, g.id = f.id := by
  have : f.id ∈ (cutL l ks).map (·.id) := by rw [cutL_ids]; exact List.mem_map.2 ⟨f, h, rfl⟩
  obtain ⟨g, hg, e⟩ := List.mem_map.1 this
  exact ⟨g, hg, e⟩
theorem cut1_ok {f : Fil} {ks : List Int} (h : f.sure ≤ f.b.length) : (cut1 f ks).b.length = (cut1 f ks).sure ∧ (cut1 f ks).b.length ≤ f.b.length ∧ ∀ b ∈ (cut1 f ks).b, b ∈ f.b := by
  have hl := limK_le f ks h
  unfold cut1
  split
  · rename_i e; exact ⟨e, Nat.le_refl _, fun b hb => hb⟩
  · refine ⟨?_, ?_, fun b hb => List.mem_of_mem_take hb⟩
    · show (f.b.take (f.sure + limK f ks)).length = f.sure + limK f ks
      rw [List.length_take]; omega
    · show (f.b.take (f.sure + limK f ks)).length ≤ _
      rw [List.length_take]; omega
theorem cutL_sum : ∀ (l : List Fil) (ks : List Int), (∀ f ∈ l, f.sure ≤ f.b.length) → lensD (cutL l ks) ≤ lensD l
  | [], _, _ => Nat.le_refl _
  | f :: l, ks, h => by
    have h1 := (cut1_ok (ks := ks) (h f (by simp))).2.1
    have h2 := cutL_sum l (cutR f ks) fun g hg => h g (by simp [hg])
    show lensD (cut1 f ks :: cutL l (cutR f ks)) ≤ _
    unfold lensD at h2 ⊢
    simp only [List.map_cons, List.sum_cons]
    omega
theorem DOl.cut {d : Dsk} (h : DOl d) (ks : List Int) : DOl { d with files := cutL d.files ks } := by
  refine ⟨⟨?_, fun g hg => ?_, fun g hg => ?_, h.ok.word, h.ok.sw, h.ok.cw, fun n hn => (h.ok.chg n hn).mono fun f hf => cutL_file ks hf, h.ok.now⟩, fun g hg => ?_, h.cz, fun g hg b hb => ?_, h.cf, h.cn⟩
  · show ((cutL d.files ks).map (·.id)).Pairwise (· < ·)
    rw [cutL_ids]; exact h.ok.ids
  · obtain ⟨f, hf, ks', rfl⟩ := cutL_mem hg
    rw [cut1_id]; exact h.ok.next f hf
  · obtain ⟨f, hf, ks', rfl⟩ := cutL_mem hg
    exact Nat.le_of_eq (cut1_ok (h.ok.sure f hf)).1.symm
  · obtain ⟨f, hf, ks', rfl⟩ := cutL_mem hg
    rw [cut1_id]; exact h.pos f hf
  · obtain ⟨f, hf, ks', rfl⟩ := cutL_mem hg
    exact h.by8 f hf b ((cut1_ok (h.ok.sure f hf)).2.2 b hb)
theorem SmD.cut {d : Dsk} (h : SmD d) (ho : DOl d) (ks : List Int) : SmD { d with files := cutL d.files ks } := ⟨h.room, h.ops, h.next, h.chg, Nat.le_trans (cutL_sum _ _ ho.ok.sure) h.len⟩
/-- how many changes of names stay -/
def limN (d : Dsk) (names : Int) : Nat := (min (max names 0) d.chg.length).toNat
def crashL (d : Dsk) (names : Int) (kl : List Int) : Dsk := armD { settleL { d with files := cutL d.files kl } (limN d names) with off := false } (-1) (-1)
set_option maxRecDepth 100000 in
theorem dnone0_c {w : World} {k : Dk} {d : Dsk} (h : Has w k.p 62 (topA k d)) : Calls Try.prog 35 #[.pointer (some ⟨k.p, 0, none⟩)] w fun e w' => e = .returned (.bool false) ∧ w = w' := by
  have c1 : w.cell? ⟨k.p, 1, none⟩ = some (.map (some k.bn)) := h.at_ 1
  obtain ⟨p, ep⟩ : ∃ p, k.p = p := ⟨_, rfl⟩
  obtain ⟨b, eb⟩ : ∃ b, k.bn = b := ⟨_, rfl⟩
  rw [ep, eb] at c1
  rw [ep]
  clear h ep eb
  have qT : ∀ (w : World) (r : Option Nat), (binOp .eql 58 (.map r) (.map none)).run Try.prog w = .ok (.bool r.isNone) w := fun w r => run_eql_map_nil w _ _ _ r Try.underlying58
  go_enter Try.func35, Try.ntmps35
  go_wp2_with fail
  go_ret
  exact ⟨rfl, rfl⟩
theorem ArmP.new {d : Dsk} (h0 : 0 ≤ d.ops) {x y : Int} (hx : -9223372036854775808 ≤ x ∧ x ≤ 9223372036854775807) (hy : -9223372036854775808 ≤ y ∧ y ≤ 9223372036854775807) : ArmP (armD d x y) d.ops x y := by
  refine ⟨h0, Int.le_refl _, hx, hy, fun n h1 h2 => ?_, fun n h1 h2 => ?_, ?_⟩
  · have h1 : d.ops ≤ n := h1
    show n - d.ops = x ↔ n = if 0 ≤ x ∧ x ≤ 1099511627776 then d.ops + x else -1
    split <;> omega
  · have h1 : d.ops ≤ n := h1
    show n - d.ops = y ↔ n = if 0 ≤ y ∧ y ≤ 1099511627776 then d.ops + y else -1
    split <;> omega
  · show d.off = true ∨ (if 0 ≤ x ∧ x ≤ 1099511627776 then d.ops + x else -1) < 0 ∨ d.ops ≤ (if 0 ≤ x ∧ x ≤ 1099511627776 then d.ops + x else -1)
    right
    split <;> omega
set_option maxRecDepth 100000 in
set_option maxHeartbeats 2000000 in
theorem darm0_c {w : World} {k : Dk} {d : Dsk} (h : Has w k.p 62 (topA k d)) {x y : Int} (hx : -9223372036854775808 ≤ x ∧ x ≤ 9223372036854775807) (hy : -9223372036854775808 ≤ y ∧ y ≤ 9223372036854775807) :
    Calls Try.prog 17 #[.pointer (some ⟨k.p, 0, none⟩), .int .i64 x, .int .i64 y] w fun e w' => e = .returned (.tuple #[]) ∧ Has w' k.p 62 (topA { k with ar := d.ops, dn := x, fl := y } (armD d x y)) ∧ Tn (fun b => b = k.p) w w' := by
  obtain ⟨k', ek⟩ : ∃ k' : Dk, k' = { k with ar := d.ops, dn := x, fl := y } := ⟨_, rfl⟩
  rw [← ek]
  have H := hid (dnone0_c h)
  have f8 := h.free 8; have f9 := h.free 9; have f10 := h.free 10
  have c7 : w.cell? ⟨k.p, 7, none⟩ = some (.int .i64 d.ops) := h.at_ 7
  have c8 : w.cell? ⟨k.p, 8, none⟩ = some (.int .i64 k.ar) := h.at_ 8
  have c9 : w.cell? ⟨k.p, 9, none⟩ = some (.int .i64 k.dn) := h.at_ 9
  have c10 : w.cell? ⟨k.p, 10, none⟩ = some (.int .i64 k.fl) := h.at_ 10
  obtain ⟨p, ep⟩ : ∃ p, k.p = p := ⟨_, rfl⟩
  obtain ⟨O, eO⟩ : ∃ O, d.ops = O := ⟨_, rfl⟩
  rw [ep, eO] at c7
  rw [ep] at c8 c9 c10 f8 f9 f10 H ⊢
  have HE : Hid (Has (((w.setCell ⟨p, 8, none⟩ (.int .i64 O)).setCell ⟨p, 9, none⟩ (.int .i64 x)).setCell ⟨p, 10, none⟩ (.int .i64 y)) p 62 (topA k' (armD d x y))) := by
    have h1 : Has w p 62 (topA k d) := ep ▸ h
    have h2 := ((h1.put 8 (.int .i64 O)).put 9 (.int .i64 x)).put 10 (.int .i64 y)
    have e : (((topA k d).setIfInBounds 8 (.int .i64 O)).setIfInBounds 9 (.int .i64 x)).setIfInBounds 10 (.int .i64 y) = topA k' (armD d x y) := by rw [ek, ← eO]; rfl
    rw [e] at h2
    exact h2
  clear h ep eO hx hy ek
  go_enter Try.func17, Try.ntmps17
  go_wp2_with fail
  refine H.out.mono ?_
  rintro e w' ⟨rfl, rfl⟩
  go_wp2_with fail
  exact void_endD rfl rfl ⟨rfl, HE.out, ((tn_put w ⟨p, 8, none⟩ (.int .i64 O)).then0 (tn_put _ ⟨p, 9, none⟩ (.int .i64 x))).then0 (tn_put _ ⟨p, 10, none⟩ (.int .i64 y))⟩
set_option maxRecDepth 100000 in
set_option maxHeartbeats 4000000 in
theorem dcrash_c {w : World} {k : Dk} {d : Dsk} (h : DAt w k d) (ho : DOl d) (hs : SmD d) {names : Int} (hn : -9223372036854775808 ≤ names ∧ names ≤ 9223372036854775807) {kl : List Int} {ak : Option Addr} {ck : Nat} (hk : InK w ak kl) (hkb : 0 < kl.length → ∀ b off, ak = some ⟨b, off, none⟩ → ¬ Foot k d b) (hkc : kl.length ≤ ck) (hcm : ck ≤ 9223372036854775807) (hki : ∀ x ∈ kl, -9223372036854775808 ≤ x ∧ x ≤ 9223372036854775807) :
    Calls Try.prog 14 #[.pointer (some ⟨k.p, 0, none⟩), .int .i64 names, .slice ak kl.length ck] w fun e w' => e = .returned (.tuple #[]) ∧ ∃ k', DRes w w' k d k' (crashL d names kl) := by
  have H0 := hid (dnone_c h)
  have HC := hid (dcut_c h ho hs hk hkb hkc hcm hki)
  have HO := hid (ho.cut kl)
  have HS := hid (hs.cut ho kl)
  obtain ⟨p, ep⟩ : ∃ p, k.p = p := ⟨_, rfl⟩
  have EP := hid ep
  obtain ⟨L, eL⟩ : ∃ L, d.chg.length = L := ⟨_, rfl⟩
  have EL := hid eL
  obtain ⟨q, eq⟩ : ∃ q, limN d names = q := ⟨_, rfl⟩
  have EQ := hid eq
  have hlim : ∀ w : World, Calls Try.prog 38 #[.int .i64 names, .int .i64 (L : Nat)] w fun e w' => e = .returned (.int .i64 (q : Nat)) ∧ w = w' := fun w => by
    refine dlimit_c.mono ?_
    rintro e w' ⟨rfl, h2⟩
    refine ⟨cret_i ?_, h2⟩
    rw [← eq]; unfold limN; rw [eL]; omega
  have HLIM := hid hlim
  have hql : q ≤ L := by rw [← eq]; unfold limN; rw [eL]; omega
  obtain ⟨m, em⟩ : ∃ m, kl.length = m := ⟨_, rfl⟩
  rw [em] at HC ⊢
  rw [ep] at H0 HC ⊢
  clear h ho hs hk hkb hkc hki ep eL eq hlim em
  go_enter Try.func14, Try.ntmps14
  go_wp2_with fail
  refine H0.out.mono ?_
  rintro e w' ⟨rfl, rfl⟩
  go_wp2_with fail
  refine HC.out.mono ?_
  rintro e w1 ⟨rfl, k1, hR1⟩
  have HR1 := hid hR1
  have hp1 : k1.p = p := hR1.p.trans EP.out
  obtain ⟨-, -, -, c3, -⟩ := hR1.at_.cells
  rw [hp1] at c3
  unfold chV at c3
  rw [show ({ d with files := cutL d.files kl } : Dsk).chg.length = L from EL.out] at c3
  have HST := hid (dsettle_c hR1.at_ HO.out HS.out (n := q) (by show q ≤ d.chg.length; rw [EL.out]; exact hql))
  rw [hp1] at HST
  have HP1 := hid hp1
  clear hR1 hp1
  go_wp2_with fail
  refine (HLIM.out w1).mono ?_
  rintro e w1' ⟨rfl, rfl⟩
  go_wp2_with fail
  refine HST.out.mono ?_
  rintro e w2 ⟨rfl, k2, hR2⟩
  have HR2 := hid (HR1.out.then_ hR2)
  have hp2 : k2.p = p := hR2.p.trans HP1.out
  have hH2 := hR2.at_.top
  rw [hp2] at hH2
  have c6 : w2.cell? ⟨p, 6, none⟩ = some (.bool (settleL { d with files := cutL d.files kl } q).off) := hH2.at_ 6
  have f6 := hH2.free 6
  have HP2 := hid hp2
  have HH2 := hid hH2
  obtain ⟨d3, ed3⟩ : ∃ d3, settleL { d with files := cutL d.files kl } q = d3 := ⟨_, rfl⟩
  rw [ed3] at HR2 HH2 c6
  have HED := hid ed3
  obtain ⟨of, eof⟩ : ∃ o, d3.off = o := ⟨_, rfl⟩
  rw [eof] at c6
  clear hR2 hH2 hp2 ed3 eof
  go_wp2_with fail
  obtain ⟨W3, eW3⟩ : ∃ W3, w2.setCell ⟨p, 6, none⟩ (.bool false) = W3 := ⟨_, rfl⟩
  rw [eW3]
  have hH3 : Has W3 k2.p 62 (topA k2 { d3 with off := false }) := by
    rw [HP2.out, ← eW3]
    exact HH2.out.put 6 (.bool false)
  have HT3 : Hid (Tn (fun b => b = p) w2 W3) := by unfold Hid; rw [← eW3]; exact tn_put w2 ⟨p, 6, none⟩ _
  have HARM := hid (darm0_c hH3 (x := -1) (y := -1) (by omega) (by omega))
  obtain ⟨kF, ekF⟩ : ∃ kF : Dk, kF = { k2 with ar := ({ d3 with off := false } : Dsk).ops, dn := -1, fl := -1 } := ⟨_, rfl⟩
  rw [← ekF, HP2.out] at HARM
  have HEK := hid ekF
  clear eW3 hH3 ekF c6 f6
  refine HARM.out.mono ?_
  rintro e w4 ⟨rfl, hH4, hT4⟩
  have HH4 := hid hH4; have HT4 := hid hT4
  clear hH4 hT4
  go_wp2_with fail
  refine void_endD rfl rfl ⟨rfl, kF, ?_⟩
  have hops : 0 ≤ d3.ops := by rw [← HED.out]; exact HS.out.ops.1
  have hrest : Rest w4 k2 d3 := HR2.out.at_.rest.tn (HT3.out.then0 HT4.out) fun b hb => by subst hb; have := HR2.out.at_.rest.top_ne HR2.out.at_.top; rwa [HP2.out] at this
  have hE : crashL d names kl = armD { d3 with off := false } (-1) (-1) := by unfold crashL; rw [EQ.out, HED.out]
  rw [hE]
  have hpF : kF.p = p := by rw [HEK.out]; exact HP2.out
  refine ⟨⟨by rw [hpF]; exact HH4.out, ?_, ?_⟩, ?_, fun b hb => ?_, ?_⟩
  · rw [HEK.out]
    exact ArmP.new (d := { d3 with off := false }) hops (by omega) (by omega)
  · rw [HEK.out]
    exact hrest.of rfl rfl rfl rfl rfl rfl rfl rfl rfl rfl rfl
  · rw [HEK.out]; exact HR2.out.p
  · have hb' : Foot k2 d3 b := by
      rw [HEK.out] at hb
      exact hb
    exact HR2.out.sub b hb'
  · refine HR2.out.tn.then_ (HT3.out.then0 HT4.out) fun b hb => ?_
    subst hb
    exact HR2.out.sub b (.inl HP2.out.symm)
/-- a new disk -/
def Dk.new (m p : Nat) : Dk := ⟨p, m, m + 1, m + 2, none, 0, 0, -1, -1, fun _ => 0, fun _ => .slice none 0 0⟩
set_option maxRecDepth 100000 in
set_option maxHeartbeats 4000000 in
theorem dnew_c {w : World} {room : Int} (h1 : -9223372036854775808 ≤ room) (h2 : room ≤ 9223372036854775807) : Calls Try.prog 10 #[.int .i64 room] w fun e w' => ∃ k, e = .returned (.pointer (some ⟨k.p, 0, none⟩)) ∧ DAt w' k (newD room) ∧ (∀ b, Foot k (newD room) b → w.heap.size ≤ b) ∧ Below w.heap.size w w' := by
  have hmm := @run_makeMap Try.prog
  obtain ⟨M, eM⟩ : ∃ M, max room 0 = M := ⟨_, rfl⟩
  have EM := hid eM
  have hW : Hid (DAt ((((w.alloc (.map #[] 0)).alloc (.map #[] 0)).alloc (.map #[] 0)).alloc (.cells #[.int .i64 M, .map (some w.heap.size), .map (some (w.heap.size + 1)), .slice none 0 0, .map (some (w.heap.size + 2)), .int .i64 0, .bool false, .int .i64 0, .int .i64 0, .int .i64 (-1), .int .i64 (-1)] 62)) (Dk.new w.heap.size (w.heap.size + 3)) (newD room)) := by
    have o0 := World.ownsMap_made w Try.prog 9 (plainElem (H := Unit) Try.prog 3)
    have o1 := World.ownsMap_made (w.alloc (.map #[] 0)) Try.prog 9 (plainElem (H := Unit) Try.prog 3)
    have o2 := World.ownsMap_made ((w.alloc (.map #[] 0)).alloc (.map #[] 0)) Try.prog 3 ptrE
    have s1 : (w.alloc (.map #[] 0)).heap.size = w.heap.size + 1 := by simp
    have s2 : ((w.alloc (.map #[] 0)).alloc (.map #[] 0)).heap.size = w.heap.size + 2 := by simp
    have s3 : (((w.alloc (.map #[] 0)).alloc (.map #[] 0)).alloc (.map #[] 0)).heap.size = w.heap.size + 3 := by simp
    rw [s1] at o1
    rw [s2] at o2
    have hh := has_new (((w.alloc (.map #[] 0)).alloc (.map #[] 0)).alloc (.map #[] 0)) 62 #[.int .i64 M, .map (some w.heap.size), .map (some (w.heap.size + 1)), .slice none 0 0, .map (some (w.heap.size + 2)), .int .i64 0, .bool false, .int .i64 0, .int .i64 0, .int .i64 (-1), .int .i64 (-1)]
    rw [s3] at hh
    refine ⟨?_, ⟨(by show (0 : Int) ≤ 0; omega), (by show (0 : Int) ≤ 0; omega), (by show (-9223372036854775808 : Int) ≤ -1 ∧ (-1 : Int) ≤ 9223372036854775807; omega), (by show (-9223372036854775808 : Int) ≤ -1 ∧ (-1 : Int) ≤ 9223372036854775807; omega), fun n h1 h2 => ?_, fun n h1 h2 => ?_, .inr (.inl (by show (-1 : Int) < 0; omega))⟩, ⟨⟨_, ((o0.alloc _).alloc _).alloc _, mh_nil⟩, ⟨_, (o1.alloc _).alloc _, mh_nil⟩, ⟨_, o2.alloc _, mh_nil⟩, World.ownsRow_nil _ _ _ _, fun f hf => (by cases hf), ?_, ?_, ?_, fun f hf => (by cases hf), fun f hf => (by cases hf)⟩⟩
    · have : topA (Dk.new w.heap.size (w.heap.size + 3)) (newD room) = #[.int .i64 M, .map (some w.heap.size), .map (some (w.heap.size + 1)), .slice none 0 0, .map (some (w.heap.size + 2)), .int .i64 0, .bool false, .int .i64 0, .int .i64 0, .int .i64 (-1), .int .i64 (-1)] := by rw [← eM]; rfl
      rw [this]; exact hh
    · have h1 : (0 : Int) ≤ n := h1
      show n - 0 = -1 ↔ n = -1
      omega
    · have h1 : (0 : Int) ≤ n := h1
      show n - 0 = -1 ↔ n = -1
      omega
    · show w.heap.size ≠ w.heap.size + 1
      omega
    · show w.heap.size ≠ w.heap.size + 2
      omega
    · show w.heap.size + 1 ≠ w.heap.size + 2
      omega
  go_enter Try.func10, Try.ntmps10
  go_wp2_with fail
  go_ret
  refine ⟨Dk.new w.heap.size (w.heap.size + 3), rfl, hW.out, fun b hb => ?_, (((below_new w _).trans ((below_new _ _).mono (by simp))).trans ((below_new _ _).mono (by simp; omega))).trans ((below_new _ _).mono (by simp; omega))⟩
  rcases hb with hb | hb | hb | hb | hb | ⟨f, hf, _⟩
  · have hb : b = w.heap.size + 3 := hb
    omega
  · have hb : b = w.heap.size := hb
    omega
  · have hb : b = w.heap.size + 1 := hb
    omega
  · have hb : b = w.heap.size + 2 := hb
    omega
  · cases hb
  · cases hf
end Go.Proofs.Ytdaelblapgcljaa.Fx
