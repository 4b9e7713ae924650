/- Package disk: Create. -/
import Derived.Test.YtdaelblapgcljaaDkI
namespace Go.Proofs.Ytdaelblapgcljaa.Fx
open Go.ChangeShapes Go.WideShapes Go.ChangeAt Go.RowKit Go.Maps
set_option linter.unusedVariables false

def Dk.newf (k : Dk) (i g : Nat) : Dk := { k with bl := fun j => if j = i then g else k.bl j, ro := fun j => if j = i then .slice none 0 0 else k.ro j }
theorem DAt.newf_ {w v : World} {k : Dk} {d : Dsk} (h : DAt w k d) (ho : ∀ f ∈ d.files, f.id ≤ d.next) {g : Nat} (hg : w.heap.size ≤ g) (hH : Has v g 86 #[.slice none 0 0, .int .i64 0]) {D : DataW Unit} (hm : FlM k.bl D d.files)
    (hown : v.ownsMap Try.prog 3 ptrE k.bf (d.files.length + 1) (D.put (kk ((d.next + 1 : Nat) : Int)) (.lit (.int .i64 (g : Nat))))) (ht : Has v k.p 62 (topA k { d with next := d.next + 1 })) (t : Tn (fun b => b = k.p ∨ b = k.bf) w v) :
    DRes w v k d (k.newf (d.next + 1) g) { d with next := d.next + 1, files := d.files ++ [⟨d.next + 1, [], 0⟩] } := by
  obtain ⟨D1, a1, b1⟩ := h.rest.mn
  obtain ⟨D2, a2, b2⟩ := h.rest.ms
  obtain ⟨D3, a3, b3⟩ := h.rest.mf
  have e1 : ∀ f ∈ d.files, (k.newf (d.next + 1) g).bl f.id = k.bl f.id := fun f hf => by
    have := ho f hf
    show (if f.id = d.next + 1 then g else _) = _
    rw [if_neg (by omega)]
  have e2 : ∀ f ∈ d.files, (k.newf (d.next + 1) g).ro f.id = k.ro f.id := fun f hf => by
    have := ho f hf
    show (if f.id = d.next + 1 then _ else _) = _
    rw [if_neg (by omega)]
  have e3 : (k.newf (d.next + 1) g).bl (d.next + 1) = g := by show (if d.next + 1 = d.next + 1 then g else _) = _; rw [if_pos rfl]
  have e4 : (k.newf (d.next + 1) g).ro (d.next + 1) = .slice none 0 0 := by show (if d.next + 1 = d.next + 1 then _ else _) = _; rw [if_pos rfl]
  have hfile : ∀ f ∈ d.files, Has v (k.bl f.id) 86 #[k.ro f.id, .int .i64 (f.sure : Nat)] ∧ OB v 0 (k.ro f.id) f.b.length (gb f.b) := fun f hf => by
    have h1 := h.rest.fl f hf
    refine ⟨h1.1.tn t ?_, h1.2.tn t fun x hx => ?_⟩
    · rintro (e | e)
      · exact absurd (ty_eq (e ▸ h1.1) h.top) (by decide)
      · exact map_has a3 h1.1 e
    · obtain ⟨cur, hh⟩ := own_ty h1.2 hx
      rintro (e | e)
      · subst e; exact absurd (ty_eq hh h.top) (by decide)
      · exact map_own a3 h1.2 hx e
  have sub : ∀ b, FootR (k.newf (d.next + 1) g) { d with next := d.next + 1, files := d.files ++ [⟨d.next + 1, [], 0⟩] } b → FootR k d b ∨ w.heap.size ≤ b := by
    rintro b (hb | hb | hb | hb | ⟨f, hf, hb⟩)
    · exact .inl (.inl hb)
    · exact .inl (.inr (.inl hb))
    · exact .inl (.inr (.inr (.inl hb)))
    · exact .inl (.inr (.inr (.inr (.inl hb))))
    · rcases List.mem_append.1 hf with hf | hf
      · rw [e1 f hf, e2 f hf] at hb
        exact .inl (.inr (.inr (.inr (.inr ⟨f, hf, hb⟩))))
      · have hf := List.mem_singleton.1 hf
        subst hf
        rw [e3, e4] at hb
        rcases hb with rfl | hb
        · exact .inr hg
        · cases hb
  refine ⟨⟨ht, ⟨h.arm.lo, h.arm.hi, h.arm.dI, h.arm.fI, h.arm.dn, h.arm.fl, h.arm.was⟩,
    ⟨⟨D1, map_tn a1 t ?_, b1⟩, ⟨D2, map_tn a2 t ?_, b2⟩, ⟨_, by rw [List.length_append]; exact hown, ?_⟩, own_tn h.rest.ch t fun x hx => ?_, ?_, h.rest.m1, h.rest.m2, h.rest.m3, ?_, ?_⟩⟩, rfl, fun b hb => ?_, t.up fun b hb => .inl ?_⟩
  · rintro (e | e)
    · exact map_has a1 h.top e.symm
    · exact h.rest.m2 e
  · rintro (e | e)
    · exact map_has a2 h.top e.symm
    · exact h.rest.m3 e
  · have hm' : FlM (k.newf (d.next + 1) g).bl D d.files := hm.el_congr fun f hf => by show DataW.lit _ = DataW.lit _; rw [e1 f hf]
    have h5 := MH.put hm' (fun n => kk_key _) (⟨d.next + 1, [], 0⟩ : Fil) (l' := d.files ++ [⟨d.next + 1, [], 0⟩]) (fun n hn => by
      rcases List.mem_append.1 hn with hn | hn
      · exact .inr ⟨hn, kk_ne (by have := ho n hn; show (n.id : Int) ≠ ((d.next + 1 : Nat) : Int); omega)⟩
      · exact .inl (List.mem_singleton.1 hn)) (by simp) (fun n hn _ => List.mem_append_left _ hn)
    have e5 : elF (k.newf (d.next + 1) g).bl (⟨d.next + 1, [], 0⟩ : Fil) = .lit (.int .i64 (g : Nat)) := by show DataW.lit _ = _; rw [e3]
    rw [e5] at h5
    exact h5
  · obtain ⟨cur, hh⟩ := own_ty h.rest.ch hx
    rintro (e | e)
    · subst e; exact absurd (ty_eq hh h.top) (by decide)
    · exact map_own a3 h.rest.ch hx e
  · intro f hf
    rcases List.mem_append.1 hf with hf | hf
    · rw [e1 f hf, e2 f hf]; exact hfile f hf
    · have hf := List.mem_singleton.1 hf
      subst hf
      rw [e3, e4]
      exact ⟨hH, OB.nil _ _ _⟩
  · intro f hf f' hf' e
    rcases List.mem_append.1 hf with hf | hf <;> rcases List.mem_append.1 hf' with hf' | hf'
    · rw [e1 f hf, e1 f' hf'] at e; exact h.rest.bi f hf f' hf' e
    · have hf' := List.mem_singleton.1 hf'; subst hf'
      rw [e1 f hf, e3] at e
      have := (h.rest.fl f hf).1.here
      omega
    · have hf := List.mem_singleton.1 hf; subst hf
      rw [e1 f' hf', e3] at e
      have := (h.rest.fl f' hf').1.here
      omega
    · rw [List.mem_singleton.1 hf, List.mem_singleton.1 hf']
  · intro f hf f' hf' b hb hb'
    rcases List.mem_append.1 hf with hf | hf <;> rcases List.mem_append.1 hf' with hf' | hf'
    · rw [e2 f hf] at hb; rw [e2 f' hf'] at hb'; exact h.rest.ri f hf f' hf' b hb hb'
    · have hf' := List.mem_singleton.1 hf'; subst hf'
      rw [e4] at hb'; cases hb'
    · have hf := List.mem_singleton.1 hf; subst hf
      rw [e4] at hb; cases hb
    · rw [List.mem_singleton.1 hf, List.mem_singleton.1 hf']
  · rcases hb with hb | hb
    · exact .inl (.inl hb)
    · exact (sub b hb).imp .inr id
  · rcases hb with hb | hb
    · exact .inl hb
    · exact .inr (.inr (.inr (.inl hb)))
def alFl (i : Nat) (v : World) (g : Nat) (e : MB.Ex) : Prop := Has v g 86 #[.slice none 0 0, .int .i64 0] ∧ e.hi = g + 1
theorem alFl_lasts : MB.Lasts alFl := fun i u v g e h hh k => ⟨h.1.kept k h.1.here, h.2⟩
def valFl (i g : Nat) (e : MB.Ex) : Value := .pointer (some ⟨g, 0, none⟩)
theorem createD_no {d : Dsk} {s : ByteArray} (h : (opD d).2 ≠ 0) : createD d s = opD d := by unfold createD; simp only; rw [if_pos h]
theorem createD_arg {d : Dsk} {s : ByteArray} (h : (opD d).2 = 0) (hn : ¬ nameD s) : createD d s = ((opD d).1, 2) := by unfold createD; simp only; rw [if_neg (by simp [h]), if_pos hn]
theorem createD_there {d : Dsk} {s : ByteArray} (h : (opD d).2 = 0) (hn : nameD s) (hl : (lookD d.names s).isSome = true) : createD d s = ((opD d).1, 5) := by unfold createD; simp only; rw [if_neg (by simp [h]), if_neg (by simp [hn]), if_pos hl]
theorem createD_full {d : Dsk} {s : ByteArray} (h : (opD d).2 = 0) (hn : nameD s) (hl : lookD d.names s = none) (h64 : 64 ≤ d.names.length) : createD d s = ((opD d).1, 3) := by unfold createD; simp only; rw [if_neg (by simp [h]), if_neg (by simp [hn]), if_neg (by simp [hl]), if_pos h64]
theorem createD_yes {d : Dsk} {s : ByteArray} (h : (opD d).2 = 0) (hn : nameD s) (hl : lookD d.names s = none) (h64 : ¬ 64 ≤ d.names.length) : createD d s = (changeD { (opD d).1 with next := d.next + 1, files := d.files ++ [⟨d.next + 1, [], 0⟩] } ⟨ByteArray.empty, s, d.next + 1⟩, 0) := by
  unfold createD; simp only; rw [if_neg (by simp [h]), if_neg (by simp [hn]), if_neg (by simp [hl]), if_neg h64]
set_option maxRecDepth 100000 in
set_option maxHeartbeats 4000000 in
theorem dcreate_c {w : World} {k : Dk} {d : Dsk} (h : DAt w k d) (ho : DOl d) (hs : SmD d) (h1 : d.ops + 1 ≤ 1073741824) (h2 : d.next + 1 ≤ 1073741824) {s : ByteArray} (hz : s.size ≤ maxLen) :
    Calls Try.prog 16 #[.pointer (some ⟨k.p, 0, none⟩), .string s] w fun e w' => e = .returned (.int .i64 (createD d s).2) ∧ ∃ k', DRes w w' k d k' (createD d s).1 := by
  have H := hid (dbegin_c h hs)
  have HO := hid ho
  have HS := hid (hs.op h1)
  have HC := hid hs.chg
  have HI := hid (fun (v : World) => disname_c (w := v) hz)
  have HF := hid (fun (v : World) (hv : DAt v k (opD d).1) => dfile_c hv ho.op (hs.op h1) hz)
  have HN := hid ho.nm
  have HL := hid (Nat.le_trans ho.nlen (show d.next ≤ 1073741824 by omega))
  obtain ⟨p, ep⟩ : ∃ p, k.p = p := ⟨_, rfl⟩
  obtain ⟨r, er⟩ : ∃ r, (opD d).2 = r := ⟨_, rfl⟩
  have EP := hid ep
  have HR := hid er
  rw [ep] at H HF ⊢
  rw [er] at H
  have hr := opD_ans d
  rw [er] at hr
  by_cases hr0 : r = 0
  · subst hr0
    by_cases hn : nameD s
    · have hn1 : decide (nameD s) = true := decide_eq_true hn
      rw [hn1] at HI
      cases hl : lookD d.names s with
      | some n =>
        have HD := hid (createD_there er hn (by rw [hl]; rfl))
        have e2 : Hid (fptr k (opD d).1 s = .pointer (some ⟨k.bl n.f, 0, none⟩)) := fptr_some (d := (opD d).1) hl
        obtain ⟨g, eg⟩ : ∃ g, k.bl n.f = g := ⟨_, rfl⟩
        rw [eg] at e2
        clear h ho hs ep er hr hn hn1 hl eg h1 hz
        go_enter Try.func16, Try.ntmps16
        go_wp2_with fail
        refine H.out.mono ?_
        rintro e w1 ⟨rfl, hR⟩
        have hR := hid hR
        go_wp2_with fail
        refine (HI.out w1).mono ?_
        rintro e w1' ⟨rfl, rfl⟩
        go_wp2_with fail
        refine (HF.out w1 hR.out.at_).mono ?_
        rintro e w2 ⟨rfl, m, rfl⟩
        rw [e2.out]
        go_wp2_with fail
        go_ret
        exact ⟨cret_i (by rw [HD.out]), k, by rw [HD.out]; exact hR.out.then_ (DRes.below hR.out.at_ (drewN_below _ _))⟩
      | none =>
        have e2 : Hid (fptr k (opD d).1 s = .pointer none) := fptr_none (d := (opD d).1) hl
        by_cases h64 : 64 ≤ d.names.length
        · have HD := hid (createD_full er hn hl h64)
          obtain ⟨bn, en⟩ : ∃ p, k.bn = p := ⟨_, rfl⟩
          have EN := hid en
          have q1 : decide ((d.names.length : Int) ≥ 64) = true := decide_eq_true (by omega)
          obtain ⟨N, eN⟩ : ∃ N, d.names.length = N := ⟨_, rfl⟩
          rw [eN] at q1
          have HNN := hid eN
          clear h ho hs ep er hr hn hn1 hl h1 hz en eN h64
          go_enter Try.func16, Try.ntmps16
          go_wp2_with fail
          refine H.out.mono ?_
          rintro e w1 ⟨rfl, hR⟩
          have hR := hid hR
          go_wp2_with fail
          refine (HI.out w1).mono ?_
          rintro e w1' ⟨rfl, rfl⟩
          go_wp2_with fail
          refine (HF.out w1 hR.out.at_).mono ?_
          rintro e w2 ⟨rfl, m, rfl⟩
          rw [e2.out]
          have hR2 := hid (hR.out.then_ (DRes.below hR.out.at_ (drewN_below w1 m)))
          obtain ⟨-, c1, -⟩ := hR2.out.at_.cells
          rw [EP.out, EN.out] at c1
          obtain ⟨D, hown, hmap⟩ := hR2.out.at_.rest.mn
          rw [EN.out] at hown
          have hlen := hown.len Try.underlying58 3
          rw [MH.size hmap (hown.canon lawS) (names_keys HN.out.apart), show (opD d).1.names.length = N from HNN.out] at hlen
          clear hown hmap
          go_wp2_with fail
          go_ret
          exact ⟨cret_i (by rw [HD.out]), k, by rw [HD.out]; exact hR2.out⟩
        · have HD := hid (createD_yes er hn hl h64)
          obtain ⟨bn, en⟩ : ∃ p, k.bn = p := ⟨_, rfl⟩
          obtain ⟨bf, ef⟩ : ∃ p, k.bf = p := ⟨_, rfl⟩
          have EN := hid (And.intro en ef)
          have q1 : decide ((d.names.length : Int) ≥ 64) = false := decide_eq_false (by omega)
          obtain ⟨N, eN⟩ : ∃ N, d.names.length = N := ⟨_, rfl⟩
          rw [eN] at q1
          have HNN := hid eN
          obtain ⟨X, eX⟩ : ∃ X, d.next = X := ⟨_, rfl⟩
          have EX := hid eX
          have HNM := hid hn
          have HZ := hid hz
          rw [eX] at h2
          clear h ho hs ep er hr hn hn1 hl h1 hz en ef eN h64 eX
          go_enter Try.func16, Try.ntmps16
          go_wp2_with fail
          refine H.out.mono ?_
          rintro e w1 ⟨rfl, hR⟩
          have hR := hid hR
          go_wp2_with fail
          refine (HI.out w1).mono ?_
          rintro e w1' ⟨rfl, rfl⟩
          go_wp2_with fail
          refine (HF.out w1 hR.out.at_).mono ?_
          rintro e w2 ⟨rfl, m, rfl⟩
          rw [e2.out]
          have hR2 := hid (hR.out.then_ (DRes.below hR.out.at_ (drewN_below w1 m)))
          obtain ⟨W, eW⟩ : ∃ W, w1.drewN m = W := ⟨_, rfl⟩
          rw [eW] at hR2 ⊢
          clear eW
          obtain ⟨-, c1, -, -, c4, c5, -⟩ := hR2.out.at_.cells
          rw [EP.out, EN.out.1] at c1
          rw [EP.out, EN.out.2] at c4
          rw [EP.out, show (opD d).1.next = X from EX.out] at c5
          have f5 := hR2.out.at_.top.free 5
          rw [EP.out] at f5
          obtain ⟨D, hown, hmap⟩ := hR2.out.at_.rest.mn
          rw [EN.out.1] at hown
          have hlen := hown.len Try.underlying58 3
          rw [MH.size hmap (hown.canon lawS) (names_keys HN.out.apart), show (opD d).1.names.length = N from HNN.out] at hlen
          clear hown hmap
          go_upto_region 11 with fail
          -- its number
          have hH3 : Hid (Has (W.setCell ⟨p, 5, none⟩ (.int .i64 ((X : Int) + 1))) p 62 (topA k { (opD d).1 with next := d.next + 1 })) := by
            have h5 := hR2.out.at_.top
            rw [EP.out] at h5
            have h6 := h5.put 5 (.int .i64 ((X : Int) + 1))
            have e6 : (topA k (opD d).1).setIfInBounds 5 (.int .i64 ((X : Int) + 1)) = topA k { (opD d).1 with next := d.next + 1 } := by
              rw [← EX.out]; unfold topA; simp only [Int.natCast_add]; rfl
            rw [e6] at h6
            exact h6
          have hT3 : Hid (Tn (fun b => b = p) W (W.setCell ⟨p, 5, none⟩ (.int .i64 ((X : Int) + 1)))) := tn_put W ⟨p, 5, none⟩ _
          obtain ⟨W3, eW3⟩ : ∃ W3, W.setCell ⟨p, 5, none⟩ (.int .i64 ((X : Int) + 1)) = W3 := ⟨_, rfl⟩
          rw [eW3] at hH3 hT3 ⊢
          clear eW3 c1 c4 c5 f5 hlen
          have c4 : W3.cell? ⟨p, 4, none⟩ = some (.map (some bf)) := by rw [← EN.out.2]; exact hH3.out.at_ 4
          have c5 : W3.cell? ⟨p, 5, none⟩ = some (.int .i64 ((X : Int) + 1)) := by rw [hH3.out.at_ 5, ← EX.out]; rfl
          refine MB.reg_mk alFl 9 [0, 1, 2, 3, 4, 5, 6, 7, 8] [0, 1, 2, 3, 4, 5, 6, 7] [8] [] (fun _ => []) (val := valFl) (by kernel_rfl) (by kernel_rfl) (fun q hq => absurd hq (by simp)) ?_
          refine MB.can_class (rest := [8]) [0, 1, 2, 3, 4, 5, 6, 7] [] 48 alFl_lasts (MB.any_class _) (by kernel_rfl) rfl (by kernel_rfl) (by kernel_rfl) ?_
          apply Exists.intro
          refine ⟨?r1, ?r2⟩
          case r1 =>
            intro Ty hTT fw hf _
            have x0 := hf.reads c4
            have x1 := hf.reads c5
            change wpQuiet _ _ _ _ [_, _, _, _, _, _, _, _] _
            repeat (go_big_quiet_step (fail))
            exact wpQuiet_nil rfl
          refine MB.can_mk 8 39 _ rfl rfl rfl rfl ?m2 fun q2 q3 => ?n2
          case m2 =>
            intro G' u _ hu
            rw [show (execOp _ _).run Try.prog u = .ok (.value (.pointer (some ⟨u.heap.size, 0, none⟩))) (u.alloc (.cells #[.slice none 0 0, .int .i64 0] 86)) by kernel_rfl]
            exact ⟨u.heap.size, ⟨u.heap.size + 1, .bool false⟩, rfl, hu.next alFl_lasts (below_new u _) (Nat.le_refl _) (Nat.le_succ _) (by simp) ⟨has_new u _ _, rfl⟩⟩
          rw [show valFl 8 q2 q3 = .pointer (some ⟨q2, 0, none⟩) from rfl]
          simp only [Act.put, List.setIfInBounds_toArray, List.set_cons_succ, List.set_cons_zero]
          intro A hu
          obtain ⟨hg7, hg8, hg9, h3, h3'⟩ := hu.2.1 8 (q2, q3) (by unfold MB.upd; simp)
          have hB := hu.1
          have HG := hid h3
          have HGE := hid hg7
          have HBel := hid hB
          have hpf : p ≠ bf := fun e => by
            obtain ⟨D, hown, _⟩ := hR2.out.at_.rest.mf
            exact map_has hown hR2.out.at_.top (by rw [EP.out, e, EN.out.2])
          obtain ⟨D, hown, hmap⟩ := hR2.out.at_.rest.mf
          have hown1 : A.ownsMap Try.prog 3 ptrE bf d.files.length D := by
            rw [EN.out.2] at hown
            exact map_tn (map_tn hown hT3.out (fun e => hpf e.symm)) (Below.tn (X := NilB) hB) (fun h => h.elim)
          have HM := hid hmap
          have hfl : d.files.length ≤ 1073741824 := Nat.le_trans HO.out.idle (by rw [EX.out]; omega)
          have HPF := hid hpf
          clear hu hB h3 h3' hg7 hg8 hg9 hown hmap c4 c5 hpf
          simp only [List.drop_succ_cons, List.drop_zero]
          go_wp2_with (at_mapUpdate; refine wpList_mapUpdate_own _ rfl _ _ _ 59 rfl 3 83 lawI Try.underlying59 ptrE bf d.files.length D rfl hown1 (by unfold maxLen; omega) _ _ _ rfl rfl (keyI (a := (X : Int) + 1) (by omega) (by omega)) _ [] (ptrE_some q2) ?_; intro w5 hown5 hg5)
          refine NoPanic.normal ?_
          have HR5 : Hid (DRes w w5 k d (k.newf (d.next + 1) q2) { (opD d).1 with next := d.next + 1, files := d.files ++ [⟨d.next + 1, [], 0⟩] }) := by
            refine hR2.out.then_ (DAt.newf_ hR2.out.at_ HO.out.op.ok.next (g := q2) (D := D) (Nat.le_trans hT3.out.size HGE.out) ?_ HM.out ?_ ?_ ?_)
            · refine HG.out.tn (tn_grown hg5) fun e => ?_
              have e : q2 = bf := by injection e
              exact map_has hown1 HG.out e
            · rw [EN.out.2, show (((opD d).1.next + 1 : Nat) : Int) = (X : Int) + 1 by rw [show (opD d).1.next = X from EX.out]; omega]
              exact hown5
            · rw [EP.out]
              refine (hH3.out.tn (Below.tn (X := NilB) HBel.out) (fun h => h.elim)).tn (tn_grown hg5) fun e => ?_
              exact HPF.out (by injection e)
            · refine ((hT3.out.up fun b hb => .inl (.inl (hb.trans EP.out.symm))).then0 (Below.tn HBel.out)).then0 ((tn_grown hg5).up fun b hb => .inl (.inr ?_))
              rw [EN.out.2]; injection hb
          have HCC := hid (dchange_c HR5.out.at_ (show NmOk d.names from HN.out) (show d.names.length ≤ 1073741824 from HL.out) (show d.chg.length ≤ 1073741824 from HC.out) (c := ⟨ByteArray.empty, s, d.next + 1⟩) (.inr ⟨HNM.out, Nat.succ_pos _⟩) (Nat.zero_le _) (by rw [EX.out]; exact h2))
          have HP5 : Hid ((k.newf (d.next + 1) q2).p = p) := EP.out
          rw [HP5.out, EX.out] at HCC
          have c5 : w5.cell? ⟨p, 5, none⟩ = some (.int .i64 ((X : Int) + 1)) := by
            have := HR5.out.at_.cells.2.2.2.2.2.1
            rw [HP5.out] at this
            rw [this, ← EX.out]; rfl
          clear hown5 hg5 hown1 HG HGE HM
          go_wp2_with fail
          refine HCC.out.mono ?_
          rintro e w6 ⟨rfl, k6, hR6⟩
          have hR6 := hid hR6
          go_wp2_with fail
          go_ret
          refine ⟨cret_i (by rw [HD.out]), k6, ?_⟩
          rw [HD.out]
          have h5 := HR5.out
          rw [EX.out] at h5 ⊢
          exact h5.then_ hR6.out
    · have hn1 : decide (nameD s) = false := decide_eq_false hn
      rw [hn1] at HI
      have HD := hid (createD_arg er hn)
      clear h ho hs ep er hr hn hn1 h1 hz
      go_enter Try.func16, Try.ntmps16
      go_wp2_with fail
      refine H.out.mono ?_
      rintro e w1 ⟨rfl, hR⟩
      have hR := hid hR
      go_wp2_with fail
      refine (HI.out w1).mono ?_
      rintro e w1' ⟨rfl, rfl⟩
      go_wp2_with fail
      go_ret
      exact ⟨cret_i (by rw [HD.out]), k, by rw [HD.out]; exact hR.out⟩
  · have HD := hid (createD_no (s := s) (by rw [er]; exact hr0))
    have hne : (r == 0) = false := by simpa using hr0
    clear h ho hs ep er hr hr0 h1 hz
    go_enter Try.func16, Try.ntmps16
    go_wp2_with fail
    refine H.out.mono ?_
    rintro e w1 ⟨rfl, hR⟩
    have hR := hid hR
    go_wp2_with fail
    go_ret
    exact ⟨cret_i (by rw [HD.out, HR.out]), k, by rw [HD.out]; exact hR.out⟩
end Go.Proofs.Ytdaelblapgcljaa.Fx
