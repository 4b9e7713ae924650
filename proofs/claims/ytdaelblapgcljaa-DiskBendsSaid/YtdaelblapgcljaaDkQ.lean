/- Package disk: forget, its walk. -/
import Derived.Test.YtdaelblapgcljaaDkO
namespace Go.Proofs.Ytdaelblapgcljaa.Fx
open Go.ChangeShapes Go.WideShapes Go.ChangeAt Go.RowKit Go.Maps
set_option linter.unusedVariables false

def Dk.forg (k : Dk) (l : List Nam) (bK : Nat) (bl2 : Nat → Nat) : Dk := { k with bf := bK, bl := bl2, ro := fun j => if named l j then k.ro j else .slice (some ⟨bl2 j - 1, 0, none⟩) 1 1 }
theorem DAt.forget_ {w v : World} {k : Dk} {d : Dsk} (h : DAt w k d) (hd : (d.files.map (·.id)).Pairwise (· < ·)) {bK : Nat} {bl2 : Nat → Nat} {D : DataW Unit} (hown : v.ownsMap Try.prog 3 ptrE bK (forgetL d.names d.files).length D) (hm : FlM bl2 D (forgetL d.names d.files))
    (hb : ∀ f ∈ d.files, named d.names f.id = true → bl2 f.id = k.bl f.id) (hst : Stubs v w.heap.size d.names d.files (fun _ => false) bl2) (hK : w.heap.size ≤ bK) (ht : Has v k.p 62 (topA { k with bf := bK } d)) (t : Tn (fun b => b = k.p) w v) :
    DRes w v k d (k.forg d.names bK bl2) { d with files := forgetL d.names d.files } := by
  have hpn := h.rest.top_ne h.top
  have hall := h.rest.tn t (fun b hb => by subst hb; exact hpn)
  have cs : ∀ g ∈ forgetL d.names d.files, (g ∈ d.files ∧ named d.names g.id = true) ∨ ∃ f ∈ d.files, isStub d.names f = true ∧ g = ⟨f.id, [0], 0⟩ ∧ named d.names f.id = false := by
    intro g hg
    obtain ⟨f, hf, h1, h2⟩ := mem_forget hg
    unfold keepF at h1
    split at h1
    · rename_i h3; cases h1; exact .inl ⟨hf, h3⟩
    · rename_i h3
      split at h1
      · rename_i h4
        cases h1
        have h3 : named d.names f.id = false := by simpa using h3
        exact .inr ⟨f, hf, by unfold isStub; rw [h3]; simpa using h4, rfl, h3⟩
      · cases h1
  have r1 : ∀ i, named d.names i = true → (k.forg d.names bK bl2).ro i = k.ro i := fun i hi => by show (if named d.names i = true then _ else _) = _; rw [if_pos hi]
  have r2 : ∀ i, named d.names i = false → (k.forg d.names bK bl2).ro i = .slice (some ⟨bl2 i - 1, 0, none⟩) 1 1 := fun i hi => by show (if named d.names i = true then _ else _) = _; rw [if_neg (by rw [hi]; simp)]
  have sub : ∀ b, FootR (k.forg d.names bK bl2) { d with files := forgetL d.names d.files } b → FootR k d b ∨ w.heap.size ≤ b := by
    rintro b (hx | hx | hx | hx | ⟨g, hg, hx⟩)
    · exact .inl (.inl hx)
    · exact .inl (.inr (.inl hx))
    · exact .inr (by rw [hx]; exact hK)
    · exact .inl (.inr (.inr (.inr (.inl hx))))
    · rcases cs g hg with ⟨h1, h2⟩ | ⟨f, hf, h1, rfl, h2⟩
      · rw [r1 _ h2] at hx
        refine .inl (.inr (.inr (.inr (.inr ⟨g, h1, ?_⟩))))
        rcases hx with hx | hx
        · exact .inl (hx.trans (hb g h1 h2))
        · exact .inr hx
      · have hs := hst.at_ f hf h1 rfl
        have hlo := hs.lo
        rcases hx with hx | hx
        · exact .inr (by rw [hx]; show _ ≤ bl2 f.id; omega)
        · rw [r2 _ h2] at hx
          cases hx
          exact .inr (by show _ ≤ bl2 f.id - 1; omega)
  have bn_lt : k.bn < w.heap.size := h.rest.lt (.inl rfl)
  have bs_lt : k.bs < w.heap.size := h.rest.lt (.inr (.inl rfl))
  refine ⟨⟨ht, ⟨h.arm.lo, h.arm.hi, h.arm.dI, h.arm.fI, h.arm.dn, h.arm.fl, h.arm.was⟩,
    ⟨hall.mn, hall.ms, ⟨D, hown, hm⟩, hall.ch, ?_, h.rest.m1, (by show k.bn ≠ bK; omega), (by show k.bs ≠ bK; omega), ?_, ?_⟩⟩, rfl, fun b hx => ?_, t.up fun b hb => .inl (.inl hb)⟩
  · intro g hg
    rcases cs g hg with ⟨h1, h2⟩ | ⟨f, hf, h1, rfl, h2⟩
    · rw [r1 _ h2]
      have := hall.fl g h1
      show Has v (bl2 g.id) _ _ ∧ _
      rw [hb g h1 h2]
      exact this
    · have hs := hst.at_ f hf h1 rfl
      rw [r2 _ h2]
      refine ⟨hs.row, rfl, .inr ⟨bl2 f.id - 1, 1, #[.int .u8 0], rfl, Nat.zero_le _, hs.by_, Nat.le_refl _, by unfold maxLen; omega, rfl, rfl⟩⟩
  · intro g hg g' hg' e
    have e : bl2 g.id = bl2 g'.id := e
    rcases cs g hg with ⟨h1, h2⟩ | ⟨f, hf, h1, rfl, h2⟩ <;> rcases cs g' hg' with ⟨h1', h2'⟩ | ⟨f', hf', h1', rfl, h2'⟩
    · rw [hb g h1 h2, hb g' h1' h2'] at e
      exact h.rest.bi g h1 g' h1' e
    · rw [hb g h1 h2] at e
      have h5 := (h.rest.fl g h1).1.here
      have h6 := (hst.at_ f' hf' h1' rfl).lo
      have e : k.bl g.id = bl2 f'.id := e
      omega
    · rw [hb g' h1' h2'] at e
      have h5 := (h.rest.fl g' h1').1.here
      have h6 := (hst.at_ f hf h1 rfl).lo
      have e : bl2 f.id = k.bl g'.id := e
      omega
    · exact hst.ne f hf f' hf' h1 h1' rfl rfl e
  · intro g hg g' hg' b e e'
    rcases cs g hg with ⟨h1, h2⟩ | ⟨f, hf, h1, rfl, h2⟩ <;> rcases cs g' hg' with ⟨h1', h2'⟩ | ⟨f', hf', h1', rfl, h2'⟩
    · rw [r1 _ h2] at e; rw [r1 _ h2'] at e'
      exact h.rest.ri g h1 g' h1' b e e'
    · rw [r1 _ h2] at e; rw [r2 _ h2'] at e'
      have h5 := own_lt (h.rest.fl g h1).2 e
      have h6 := (hst.at_ f' hf' h1' rfl).lo
      have e' : bl2 f'.id - 1 = b := by cases e'; rfl
      omega
    · rw [r1 _ h2'] at e'; rw [r2 _ h2] at e
      have h5 := own_lt (h.rest.fl g' h1').2 e'
      have h6 := (hst.at_ f hf h1 rfl).lo
      have e : bl2 f.id - 1 = b := by cases e; rfl
      omega
    · rw [r2 _ h2] at e; rw [r2 _ h2'] at e'
      have h5 := (hst.at_ f hf h1 rfl).lo
      have h6 := (hst.at_ f' hf' h1' rfl).lo
      have e : bl2 f.id - 1 = b := by cases e; rfl
      have e' : bl2 f'.id - 1 = b := by cases e'; rfl
      exact hst.ne f hf f' hf' h1 h1' rfl rfl (by omega)
  · rcases hx with hx | hx
    · exact .inl (.inl hx)
    · exact (sub b hx).imp .inr id
theorem Stubs.low {w : World} {B B' : Nat} {l : List Nam} {fs : List Fil} {left : Lit → Bool} {bl : Nat → Nat} (h : Stubs w B l fs left bl) (hB : B' ≤ B) : Stubs w B' l fs left bl :=
  ⟨fun f hf hs hl => ⟨by have := (h.at_ f hf hs hl).lo; omega, (h.at_ f hf hs hl).row, (h.at_ f hf hs hl).by_⟩, h.ne⟩
theorem Stubs.tn {w v : World} {B : Nat} {l : List Nam} {fs : List Fil} {left : Lit → Bool} {bl : Nat → Nat} {X : Nat → Prop} (h : Stubs w B l fs left bl) (t : Tn X w v) (hX : ∀ b, X b → b ≤ B) : Stubs v B l fs left bl :=
  ⟨fun f hf hs hl => (h.at_ f hf hs hl).tn t (fun hx => by have := hX _ hx; have := (h.at_ f hf hs hl).lo; omega) (fun hx => by have := hX _ hx; have := (h.at_ f hf hs hl).lo; omega), h.ne⟩
/-- one more has come that is none -/
theorem Stubs.skip {w : World} {B : Nat} {l : List Nam} {fs : List Fil} {left : Lit → Bool} {bl : Nat → Nat} {f : Fil} (h : Stubs w B l fs left bl) (hd : (fs.map (·.id)).Pairwise (· < ·)) (hf : f ∈ fs) (hs : isStub l f = false) : Stubs w B l fs (fun z => left z && !z.sameKey (keF f)) bl := by
  have key : ∀ y ∈ fs, isStub l y = true → (left (keF y) && !(keF y).sameKey (keF f)) = false → left (keF y) = false := fun y hy hys hl => by
    by_cases e : y.id = f.id
    · have := ids_one hd hy hf e
      subst this
      rw [hs] at hys; cases hys
    · rw [sameKey_ne (kk_ne (by omega))] at hl
      simpa using hl
  exact ⟨fun y hy hys hl => h.at_ y hy hys (key y hy hys hl), fun y hy y' hy' a b hl hl' e => h.ne y hy y' hy' a b (key y hy a hl) (key y' hy' b hl') e⟩
/-- one more has come that is one -/
theorem Stubs.more {w : World} {B : Nat} {l : List Nam} {fs : List Fil} {left : Lit → Bool} {bl : Nat → Nat} {f : Fil} {g : Nat} (h : Stubs w B l fs left bl) (hd : (fs.map (·.id)).Pairwise (· < ·)) (hf : f ∈ fs) (hg : StubAt w B g) (hn : ∀ y ∈ fs, isStub l y = true → left (keF y) = false → bl y.id ≠ g) : Stubs w B l fs (fun z => left z && !z.sameKey (keF f)) (fun j => if j = f.id then g else bl j) := by
  have key : ∀ y : Fil, y.id ≠ f.id → (left (keF y) && !(keF y).sameKey (keF f)) = false → left (keF y) = false := fun y e hl => by
    rw [sameKey_ne (kk_ne (by omega))] at hl
    simpa using hl
  refine ⟨fun y hy hys hl => ?_, fun y hy y' hy' a b hl hl' e => ?_⟩
  · by_cases e : y.id = f.id
    · show StubAt w B (if y.id = f.id then g else bl y.id)
      rw [if_pos e]; exact hg
    · show StubAt w B (if y.id = f.id then g else bl y.id)
      rw [if_neg e]; exact h.at_ y hy hys (key y e hl)
  · have e : (if y.id = f.id then g else bl y.id) = (if y'.id = f.id then g else bl y'.id) := e
    by_cases e1 : y.id = f.id
    · by_cases e2 : y'.id = f.id
      · rw [e1, e2]
      · rw [if_pos e1, if_neg e2] at e
        exact absurd e.symm (hn y' hy' b (key y' e2 hl'))
    · by_cases e2 : y'.id = f.id
      · rw [if_neg e1, if_pos e2] at e
        exact absurd e (hn y hy a (key y e1 hl))
      · rw [if_neg e1, if_neg e2] at e
        exact h.ne y hy y' hy' a b (key y e1 hl) (key y' e2 hl') e
theorem below_grown {X Y : World} (h : Below X.heap.size X Y) : X.grownBy Y none := ⟨h.os, h.tape, h.output, h.size, fun k hk _ => h.block k hk⟩
theorem make_1 (w : World) : (Instr.makeSlice 29 (.int .i64 1) (.int .i64 1)).run Try.prog w = .ok (.slice (some ⟨w.heap.size, 0, none⟩) 1 1) (w.alloc (.cells #[.int .u8 0] 5)) := by
  obtain ⟨i0, hi, hz0, hz1, hz2⟩ := info_parts info8
  have h := run_make (P := Try.prog) w 29 5 i0 _ Try.underlying29 hi hz0 .i64 .i64 1 1 (by omega) (by omega) (by rw [hz2]; omega) (by omega)
  rw [hz1, show Int.toNat 1 = 1 from rfl, Nat.mul_one, show madeCells (Value.int .u8 0).cells 1 = #[.int .u8 0] by kernel_rfl] at h
  exact h
set_option maxRecDepth 100000 in
set_option maxHeartbeats 8000000 in
theorem dforget_c {w : World} {k : Dk} {d : Dsk} (h : DAt w k d) (hnm : NmOk d.names) (hdi : (d.files.map (·.id)).Pairwise (· < ·)) (hfi : ∀ n ∈ d.names, ∃ f ∈ d.files, f.id = n.f) (hsl : ∀ f ∈ d.files, f.sure ≤ f.b.length) (hx : ∀ f ∈ d.files, f.id ≤ 1073741824) (hfl : d.files.length ≤ 1073741824) (hll : lensD d.files ≤ 1073741824) :
    Calls Try.prog 61 #[.pointer (some ⟨k.p, 0, none⟩)] w fun e w' => e = .returned (.tuple #[]) ∧ ∃ k', DRes w w' k d k' { d with files := forgetL d.names d.files } := by
  have HA := hid h
  have HN := hid hnm; have HD := hid hdi; have HFI := hid hfi; have HSL := hid hsl; have HX := hid hx; have HLL := hid hll
  have hmm := @run_makeMap Try.prog
  obtain ⟨-, c1, -, -, c4, -⟩ := h.cells
  obtain ⟨DN, hownN, hmapN⟩ := h.rest.mn
  have HMN := hid hmapN
  obtain ⟨p, ep⟩ : ∃ p, k.p = p := ⟨_, rfl⟩
  obtain ⟨bn, en⟩ : ∃ p, k.bn = p := ⟨_, rfl⟩
  obtain ⟨bf, ef⟩ : ∃ p, k.bf = p := ⟨_, rfl⟩
  have EP := hid (And.intro ep (And.intro en ef))
  rw [ep, en] at c1
  rw [ep, ef] at c4
  rw [en] at hownN
  rw [ep]
  have hpl : p < w.heap.size := ep ▸ h.top.here
  have hbn : bn < w.heap.size := hownN.lt
  have hbf : bf < w.heap.size := ef ▸ h.rest.lt (.inr (.inr (.inl rfl)))
  obtain ⟨m, em⟩ : ∃ m, d.names.length = m := ⟨_, rfl⟩
  rw [em] at hownN
  obtain ⟨W1, eW1⟩ : ∃ W1, W1 = w.alloc (.map #[] 0) := ⟨_, rfl⟩
  obtain ⟨bK, eK⟩ : ∃ b, w.heap.size = b := ⟨_, rfl⟩
  have hb1 : Below w.heap.size w W1 := by rw [eW1]; exact below_new w _
  have hs1 : W1.heap.size = bK + 1 := by rw [eW1, ← eK]; simp
  have hown1 : W1.ownsMap Try.prog 9 (plainElem Try.prog 3) bn m DN := map_tn hownN (Below.tn (X := NilB) hb1) (fun h => h)
  have hK1 : W1.ownsMap Try.prog 3 ptrE bK 0 (.map [] : DataW Unit) := by rw [eW1, ← eK]; exact World.ownsMap_made w _ _ _
  have y1 : W1.cell? ⟨p, 1, none⟩ = some (.map (some bn)) := Below.reads hb1 c1
  have HB1 := hid hb1; have HS1 := hid hs1; have HK1 := hid hK1; have EK := hid eK
  have EW1 := hid eW1
  clear h hnm hdi hfi hsl hx hll ep en ef em hmapN hownN c1 hb1 hs1 hK1 eK eW1
  go_enter Try.func61, Try.ntmps61
  go_upto_region 1 with fail
  rw [← EW1.out, EK.out]
  go_wp2_with (at_range; refine wpList_range_own _ rfl _ 58 rfl 9 3 lawS Try.underlying58 (plainElem Try.prog 3) bn m DN rfl hown1 ?_; intro w0 hrg0 hg0 hs0)
  go_frame
  have hb0 : Below w.heap.size W1 w0 := (Below.refl _ _).grown hg0 HB1.out.size (fun j hj => by cases hj)
  have hK0 : w0.ownsMap Try.prog 3 ptrE bK 0 (.map [] : DataW Unit) := map_tn HK1.out (tn_grown hg0) (fun e => by cases e)
  obtain ⟨gr, egr⟩ : ∃ g, W1.heap.size = g := ⟨_, rfl⟩
  have HB0 := hid hb0; have HK0 := hid hK0
  have HGR : Hid (gr = bK + 1) := egr ▸ HS1.out
  rw [egr] at hrg0 ⊢
  clear hg0 hs0 egr hb0 hK0 hown1 y1
  go_loopw [4] (fun _ wr => ∃ (left : Lit → Bool) (cnt : Nat) (D : DataW Unit), wr.ranges Try.prog 9 (plainElem Try.prog 3) bn gr m DN left cnt ∧ wr.ownsMap Try.prog 3 ptrE bK (forgetP (doneL keN left d.names) (fun _ => false) d.files).length D ∧ Hid (FlM k.bl D (forgetP (doneL keN left d.names) (fun _ => false) d.files) ∧ Below bK w wr)) (fun _ wr => wr.rangeLeft bn gr)
  case atStart =>
    have e0 : doneL keN (Maps.has DN) d.names = [] := done_start fun n hn => HMN.out.yes hn
    have e1 : forgetP [] (fun _ => false) d.files = [] := by
      unfold forgetP
      rw [List.filterMap_eq_nil_iff]
      intro f _; rfl
    refine ⟨_, _, .map [], hrg0, ?_, ?_, ?_⟩
    · rw [e0, e1]; exact HK0.out
    · rw [e0, e1]; exact mh_nil
    · rw [← EK.out]; exact HB1.out.trans HB0.out
  case round =>
    obtain ⟨left, cnt, D, hrg, hKD, HB⟩ := hrel
    go_wp2_with (at_next; refine wpList_next_ranges _ rfl _ rfl 9 lawS (plainElem Try.prog 3) Value.string (Value.int .i64) (fun key kl hk => by obtain ⟨s, e, _⟩ := keyS_inv hk; exact ⟨s, e⟩) (fun v y hv => by obtain ⟨c, rfl, _⟩ := plainElem_int_inv Try.underlying3 hv; exact ⟨c, rfl⟩) bn gr m DN left cnt rfl hrg ?_ ?_)
    · intro hc0 hl0
      have hmK := HB.out.1
      have hKD' := hKD
      rw [done_end hl0] at hmK hKD'
      have HMK := hid hmK
      have HBE := hid HB.out.2
      have hbe' : Below w.heap.size w wr := by rw [EK.out]; exact HB.out.2
      obtain ⟨DF, hownF, hmapF⟩ := HA.out.rest.mf
      have HMF := hid hmapF
      rw [EP.out.2.2] at hownF
      have hownF' : wr.ownsMap Try.prog 3 ptrE bf d.files.length DF := map_tn hownF (Below.tn (X := NilB) hbe') (fun h => h)
      have y4 : wr.cell? ⟨p, 4, none⟩ = some (.map (some bf)) := Below.reads hbe' c4
      have hwl : w.heap.size ≤ wr.heap.size := hbe'.size
      have hKlt : bK < wr.heap.size := hKD'.lt
      obtain ⟨mf, emf⟩ : ∃ m, d.files.length = m := ⟨_, rfl⟩
      rw [emf] at hownF' hfl
      have EMF := hid emf
      clear hmK hKD hownF hmapF hbe' HB hl0 hrg emf HMN HK0 HB0 hrg0
      go_wp2_with (at_range; refine wpList_range_own _ rfl _ 59 rfl 3 83 lawI Try.underlying59 ptrE bf mf DF rfl hownF' ?_; intro w10 hrg1 hg1 hs1)
      go_frame
      have hK10 : w10.ownsMap Try.prog 3 ptrE bK (forgetP d.names (fun _ => false) d.files).length D := map_tn hKD' (tn_grown hg1) (fun e => by cases e)
      have HB10 : Hid (Below bK w w10) := HBE.out.grown hg1 (by rw [← EK.out]; exact hwl) (fun j hj => by cases hj)
      obtain ⟨gq, egq⟩ : ∃ g, wr.heap.size = g := ⟨_, rfl⟩
      rw [egq] at hrg1 hwl hKlt ⊢
      clear hg1 hs1 egq y4 hownF'
      go_loopw [5, 6] (fun _ _ wq => ∃ (left : Lit → Bool) (cnt : Nat) (D2 : DataW Unit) (bl2 : Nat → Nat), wq.ranges Try.prog 3 ptrE bf gq mf DF left cnt ∧ wq.ownsMap Try.prog 3 ptrE bK (forgetP d.names (fun x => !left (keF x)) d.files).length D2 ∧ Hid (FlM bl2 D2 (forgetP d.names (fun x => !left (keF x)) d.files) ∧ (∀ f ∈ d.files, named d.names f.id = true → bl2 f.id = k.bl f.id) ∧ Stubs wq gq d.names d.files left bl2 ∧ Below bK w wq ∧ gq ≤ wq.heap.size)) (fun _ _ wq => wq.rangeLeft bf gq)
      case atStart =>
        have e0 : forgetP d.names (fun x => !(Maps.has DF) (keF x)) d.files = forgetP d.names (fun _ => false) d.files := forget_congr fun f hf => by rw [HMF.out.yes hf]; rfl
        refine ⟨_, _, D, k.bl, hrg1, ?_, ?_, fun _ _ _ => rfl, ⟨fun f hf hs hl => ?_, fun f hf f' hf' _ _ hl => ?_⟩, HB10.out, ?_⟩
        · rw [e0]; exact hK10
        · rw [e0]; exact HMK.out
        · rw [HMF.out.yes hf] at hl; cases hl
        · rw [HMF.out.yes hf] at hl; cases hl
        · exact Nat.le_of_lt hrg1.lt
      case round =>
        obtain ⟨left2, cnt2, D2, bl2, hrg2, hKD2, HB2⟩ := hrel
        go_wp2_with (at_next; refine wpList_next_ranges _ rfl _ rfl 3 lawI ptrE (Value.int .i64) id (fun key kl hk => by obtain ⟨s, e, _⟩ := Maps.keyOf_int_inv Try.underlying3 hk; exact ⟨s, e⟩) (fun v y hv => ⟨v, rfl⟩) bf gq mf DF left2 cnt2 rfl hrg2 ?_ ?_)
        · intro hc0 hl0
          have e0 : forgetP d.names (fun x => !left2 (keF x)) d.files = forgetL d.names d.files := forget_congr fun f hf => by rw [hl0]; rfl
          have hbe : Below w.heap.size w wr := by rw [EK.out]; exact HB2.out.2.2.2.1
          have hH : Has wr p 62 (topA k d) := EP.out.1 ▸ (HA.out.top.tn (Below.tn (X := NilB) hbe) (fun h => h))
          have z4 : wr.cell? ⟨p, 4, none⟩ = some (.map (some bf)) := by rw [← EP.out.2.2]; exact hH.at_ 4
          have f4 := hH.free 4
          have HH := hid hH; have HBE2 := hid hbe
          have HKD2 := hid hKD2
          have HS2 : Hid (Stubs wr gq d.names d.files (fun _ => false) bl2) := ⟨fun f hf hs _ => HB2.out.2.2.1.at_ f hf hs (hl0 _), fun f hf f' hf' a b _ _ e => HB2.out.2.2.1.ne f hf f' hf' a b (hl0 _) (hl0 _) e⟩
          have HE0 := hid e0
          clear hH hbe hKD2 hl0 hrg2 e0
          go_wp2_with fail
          go_end0
          refine ⟨rfl, k.forg d.names bK bl2, DAt.forget_ HA.out HD.out (D := D2) ?_ ?_ HB2.out.2.1 ?_ (Nat.le_of_eq EK.out) ?_ ?_⟩
          · rw [← HE0.out]
            exact map_tn HKD2.out (tn_put wr ⟨p, 4, none⟩ _) (fun e => by have h1 : bK = p := e; have h2 := EK.out; omega)
          · rw [← HE0.out]; exact HB2.out.1
          · exact (HS2.out.tn (tn_put wr ⟨p, 4, none⟩ _) (fun b hb => by have hb : b = p := hb; omega)).low (by omega)
          · rw [EP.out.1]
            have := HH.out.put 4 (.map (some bK))
            exact this
          · exact (Below.tn HBE2.out).then0 ((tn_put wr ⟨p, 4, none⟩ _).up fun b hb => .inl (hb.trans EP.out.1.symm))
        · intro x c kl yd yp w8 cnt8 hkey hlk hv hat hrg8 hlt8 hg8 hs8 hen0
          obtain ⟨s', es, ekl, _⟩ := Maps.keyOf_int_inv Try.underlying3 hkey
          cases es
          subst ekl
          obtain ⟨f, hf, ex, ec⟩ := fm_come HMF.out hv hat
          have ec : c = .pointer (some ⟨k.bl f.id, 0, none⟩) := ec
          subst ec
          subst ex
          have hb8 : Below bK w w8 := HB2.out.2.2.2.1.grown hg8 (by rw [← EK.out]; exact HB2.out.2.2.2.1.size) (fun j hj => by cases hj; exact Nat.le_of_lt hKlt)
          have hb8' : Below w.heap.size w w8 := by rw [EK.out]; exact hb8
          have hr8 : Rest w8 k d := HA.out.rest.tn (Below.tn (X := NilB) hb8') (fun _ hh => hh.elim)
          have hidf : f.id ≤ 1073741824 := HX.out f hf
          have hq8 : gq < w8.heap.size := hrg8.lt
          have hKD8 : w8.ownsMap Try.prog 3 ptrE bK (forgetP d.names (fun x => !left2 (keF x)) d.files).length D2 := map_tn hKD2 (tn_grown hg8) (fun e => by have h1 : bK = gq := (by injection e); omega)
          have l1 := map_getf hKD8 HB2.out.1 (i := (f.id : Nat)) (by omega) (by omega)
          rw [find_nat, forget_file HD.out hf] at l1
          have hll2 : left2 (keF f) = true := hlk
          have HLL2 := hid hll2
          have hsl := HSL.out f hf
          have hlenf : f.b.length ≤ 1073741824 := Nat.le_trans (len_le hf) HLL.out
          have hst8 : Stubs w8 gq d.names d.files left2 bl2 := HB2.out.2.2.1.tn (tn_grown hg8) (fun b hb => by have hb : b = gq := (by injection hb); omega)
          obtain ⟨ao, cc, _, hH, _, _, _, _⟩ := hr8.file hf
          have HB8 := hid hb8
          have HF := hid hf
          have HKD8 := hid hKD8
          have HST8 := hid hst8
          have hfl2 : (forgetP d.names (fun x => !left2 (keF x)) d.files).length ≤ 1073741824 := Nat.le_trans (forget_len _ _ _) (by rw [EMF.out]; exact hfl)
          -- this one is not kept, or kept already
          have HSKIP : Hid (isStub d.names f = false → ∃ (left : Lit → Bool) (cnt : Nat) (D2 : DataW Unit) (bl2 : Nat → Nat), (left = fun z => left2 z && !z.sameKey (keF f)) ∧ cnt = cnt8 ∧ w8.ownsMap Try.prog 3 ptrE bK (forgetP d.names (fun x => !left (keF x)) d.files).length D2 ∧ Hid (FlM bl2 D2 (forgetP d.names (fun x => !left (keF x)) d.files) ∧ (∀ f ∈ d.files, named d.names f.id = true → bl2 f.id = k.bl f.id) ∧ Stubs w8 gq d.names d.files left bl2 ∧ Below bK w w8 ∧ gq ≤ w8.heap.size)) := fun hs => by
            refine ⟨_, _, D2, bl2, rfl, rfl, ?_, ?_, HB2.out.2.1, hst8.skip HD.out hf hs, hb8, Nat.le_of_lt hq8⟩
            · rw [forget_step3 HD.out hf hs]; exact hKD8
            · rw [forget_step3 HD.out hf hs]; exact HB2.out.1
          cases hnm : named d.names f.id with
          | true =>
            have e1 : keepF (named d.names f.id) (!left2 (keF f)) f = some f := by unfold keepF; rw [if_pos hnm]
            rw [e1] at l1
            obtain ⟨g, eg⟩ : ∃ g, bl2 f.id = g := ⟨_, rfl⟩
            have l1 : (Instr.lookup 59 (.map (some bK)) (.int .i64 (f.id : Nat)) false).run Try.prog w8 = .ok (.pointer (some ⟨g, 0, none⟩)) w8 := by rw [← eg]; exact l1
            have HST := hid (HSKIP.out (by unfold isStub; rw [hnm]; rfl))
            clear hKD8 hr8 hH hb8 hb8' hs8 hg8 hnm e1 eg hll2 hat hkey hv hlk hf hrg1 hKD2 hst8
            go_wp2_with fail
            go_roundw
            case rel =>
              obtain ⟨left, cnt, D3, bl3, rfl, rfl, r1, r2⟩ := HST.out
              exact ⟨_, _, D3, bl3, hrg8, r1, r2⟩
            case measure => rw [hrg8.left_eq, hrg2.left_eq]; exact hlt8
          | false =>
            have e1 : keepF (named d.names f.id) (!left2 (keF f)) f = none := by unfold keepF; rw [if_neg (by rw [hnm]; simp), if_neg (by rw [hll2]; simp)]
            rw [e1] at l1
            have l1 : (Instr.lookup 59 (.map (some bK)) (.int .i64 (f.id : Nat)) false).run Try.prog w8 = .ok (.pointer none) w8 := l1
            obtain ⟨g, eg⟩ : ∃ g, k.bl f.id = g := ⟨_, rfl⟩
            rw [eg] at hH hen0
            have HFL := hid (floose_c hH (by omega) (by omega) (by omega))
            obtain ⟨L, eL⟩ : ∃ L, f.b.length = L := ⟨_, rfl⟩
            obtain ⟨S, eS⟩ : ∃ S, f.sure = S := ⟨_, rfl⟩
            rw [eL, eS] at HFL
            rw [eL] at hlenf hsl
            rw [eS] at hsl
            have HNM := hid hnm
            have ELS := hid (And.intro eL eS)
            obtain ⟨Nn, eNn⟩ : ∃ N : Int, (L : Int) - (S : Int) = N := ⟨_, rfl⟩
            rw [eNn] at HFL
            have ENN := hid eNn
            clear eNn
            clear hKD8 hr8 hH hb8 hb8' hs8 hg8 hnm e1 eg hll2 hat hkey hv hlk hf hrg1 hKD2 hst8 eL eS
            go_wp2_with fail
            refine HFL.out.mono ?_
            rintro e v8 ⟨rfl, mm, rfl⟩
            have hbv := drewN_below w8 mm
            have hrgv := hrg8.kept (below_grown hbv) (by simp) (by simp)
            obtain ⟨V, eV⟩ : ∃ V, w8.drewN mm = V := ⟨_, rfl⟩
            rw [eV] at hbv hrgv ⊢
            have tv : Tn NilB w8 V := Below.tn hbv
            by_cases hlo : S < L
            · have q1 : decide (Nn > 0) = true := decide_eq_true (by have := ENN.out; omega)
              have hst : Hid (isStub d.names f = true) := by unfold Hid isStub; rw [HNM.out, ELS.out.1, ELS.out.2]; simpa using hlo
              have hmk := @make_1
              have hKV : ∀ o o', ((V.alloc o).alloc o').ownsMap Try.prog 3 ptrE bK (forgetP d.names (fun x => !left2 (keF x)) d.files).length D2 := fun o o' => map_tn (map_tn (map_tn HKD8.out tv (fun h => h)) (tn_alloc V o NilB) (fun h => h)) (tn_alloc _ o' NilB) (fun h => h)
              have HST8V := hid (HST8.out.tn tv (fun b hb => hb.elim))
              have hKV1 := hKV (.cells #[.int .u8 0] 5) (.cells #[.slice (some ⟨V.heap.size, 0, none⟩) 1 1, .int .i64 0] 86)
              have HV8 : Hid (gq < V.heap.size) := Nat.lt_of_lt_of_le hq8 hbv.size
              have HBV : Hid (Below bK w V) := HB8.out.trans (hbv.mono (by have := HB8.out.size; have := EK.out; omega))
              clear hKV hlo hrg8 eV tv hbv l1
              go_wp2_with (at_mapUpdate; refine wpList_mapUpdate_own _ rfl _ _ _ 59 rfl 3 83 lawI Try.underlying59 ptrE bK _ D2 rfl hKV1 (by unfold maxLen; omega) _ _ _ rfl rfl (keyI (a := (f.id : Nat)) (by omega) (by omega)) _ [] (ptrE_some (V.heap.size + 1)) ?_; intro w9 hown9 hg9; go_frame)
              have hrg9 := ((hrgv.alloc (.cells #[.int .u8 0] 5)).alloc (.cells #[.slice (some ⟨V.heap.size, 0, none⟩) 1 1, .int .i64 0] 86)).kept hg9 (fun e => by have h1 : bf = bK := (by injection e); have h2 := EK.out; omega) (fun e => by have h1 : gq = bK := (by injection e); omega)
              go_roundw
              case rel =>
                have hF2 := forget_step2 (g := V.heap.size + 1) HD.out HF.out hst.out HB2.out.1 HLL2.out
                have tV : Tn (fun b => b = bK) V w9 := ((tn_alloc V (.cells #[.int .u8 0] 5) _).then0 (tn_alloc _ (.cells #[.slice (some ⟨V.heap.size, 0, none⟩) 1 1, .int .i64 0] 86) _)).then0 ((tn_grown hg9).up fun b hb => .inl (by injection hb))
                have hr1 : Has ((V.alloc (.cells #[.int .u8 0] 5)).alloc (.cells #[.slice (some ⟨V.heap.size, 0, none⟩) 1 1, .int .i64 0] 86)) (V.heap.size + 1) 86 #[.slice (some ⟨V.heap.size, 0, none⟩) 1 1, .int .i64 0] := by
                  have := has_new (V.alloc (.cells #[.int .u8 0] 5)) 86 #[.slice (some ⟨V.heap.size, 0, none⟩) 1 1, .int .i64 0]
                  simpa using this
                have hr2 : Has ((V.alloc (.cells #[.int .u8 0] 5)).alloc (.cells #[.slice (some ⟨V.heap.size, 0, none⟩) 1 1, .int .i64 0] 86)) V.heap.size 5 #[.int .u8 0] := (has_new V 5 #[.int .u8 0]).more _
                have hlt9 := HV8.out
                refine ⟨_, cnt8, D2.put (kk (f.id : Nat)) (.lit (.int .i64 ((V.heap.size + 1 : Nat) : Int))), fun j => if j = f.id then V.heap.size + 1 else bl2 j, hrg9, flm_len hF2 hown9 (forget_ids HD.out), hF2, fun y hy hyn => ?_, Stubs.more (HST8V.out.tn tV fun b hb => by have hb : b = bK := hb; omega) HD.out HF.out ⟨by omega, ?_, ?_⟩ (fun y hy hys hyl e => ?_), ?_, ?_⟩
                · show (if y.id = f.id then _ else bl2 y.id) = _
                  rw [if_neg]
                  · exact HB2.out.2.1 y hy hyn
                  · intro e
                    have e2 := ids_one HD.out hy HF.out e
                    subst e2
                    rw [HNM.out] at hyn; cases hyn
                · exact hr1.tn (tn_grown hg9) (fun e => by have h1 : V.heap.size + 1 = bK := (by injection e); omega)
                · exact hr2.tn (tn_grown hg9) (fun e => by have h1 : V.heap.size = bK := (by injection e); omega)
                · have := (HST8V.out.at_ y hy hys hyl).row.here
                  omega
                · exact Tn.below_ HBV.out tV (by omega) (fun b hb => Nat.le_of_eq hb.symm)
                · exact Nat.le_trans (Nat.le_of_lt hlt9) tV.size
              case measure => rw [hrg9.left_eq, hrg2.left_eq]; exact hlt8
            · have q1 : decide (Nn > 0) = false := decide_eq_false (by have := ENN.out; omega)
              have HST := hid (HSKIP.out (by unfold isStub; rw [HNM.out, ELS.out.1, ELS.out.2]; simpa using hlo))
              have HV : Hid (Tn NilB w8 V) := tv
              have HBV := hid hbv
              clear hlo hrg8 eV tv hbv
              go_wp2_with fail
              go_roundw
              case rel =>
                obtain ⟨left, cnt, D3, bl3, rfl, rfl, r1, r2⟩ := HST.out
                exact ⟨_, _, D3, bl3, hrgv, map_tn r1 HV.out (fun h => h), r2.1, r2.2.1, r2.2.2.1.tn HV.out (fun b hb => hb.elim), r2.2.2.2.1.trans (HBV.out.mono (by have := r2.2.2.2.1.size; have := EK.out; omega)), Nat.le_trans r2.2.2.2.2 HBV.out.size⟩
              case measure => rw [hrgv.left_eq, hrg2.left_eq]; exact hlt8
    · intro x c kl yd yp w8 cnt8 hkey hlk hv hat hrg8 hlt8 hg8 hs8 hen0
      obtain ⟨s', es, ekl, _⟩ := keyS_inv hkey
      cases es
      subst ekl
      obtain ⟨n, hn, en, ec⟩ := nm_come HMN.out hv hat
      obtain ⟨f, hf, hfid⟩ := HFI.out n hn
      have ec : c = (n.f : Nat) := by injection ec
      subst ec
      have hb8 : Below bK w w8 := HB.out.2.grown hg8 (by rw [← EK.out]; exact HB.out.2.size) (fun j hj => by cases hj; have := HGR.out; omega)
      have hb8' : Below w.heap.size w w8 := by rw [EK.out]; exact hb8
      have hr8 : Rest w8 k d := HA.out.rest.tn (Below.tn (X := NilB) hb8') (fun _ hh => hh.elim)
      have hidf : n.f ≤ 1073741824 := by rw [← hfid]; exact HX.out f hf
      have l2 := hr8.getf (i := n.f) (by omega)
      have hp : ptrF k d n.f = .pointer (some ⟨k.bl n.f, 0, none⟩) := by
        unfold ptrF; rw [← hfid, file_of HD.out hf]
      rw [hp, EP.out.2.2] at l2
      have y4 : w8.cell? ⟨p, 4, none⟩ = some (.map (some bf)) := Below.reads hb8' c4
      have hKD8 : w8.ownsMap Try.prog 3 ptrE bK (forgetP (doneL keN left d.names) (fun _ => false) d.files).length D := map_tn hKD (tn_grown hg8) (fun e => by have h1 : bK = gr := (by injection e); have h2 := HGR.out; omega)
      obtain ⟨g, eg⟩ : ∃ g, k.bl n.f = g := ⟨_, rfl⟩
      rw [eg] at l2
      have EG := hid eg
      have hpm := done_step (key := keN) (left := left) (fun n => sk_key n.s) (names_keys HN.out.apart) hn (by rw [← en] at hlk; exact hlk)
      have HNX := hid (forget_step1 HD.out hpm hf hfid HB.out.1)
      have HB8 := hid hb8
      have HS := hid en
      have hlen : (forgetP (doneL keN left d.names) (fun _ => false) d.files).length ≤ 1073741824 := Nat.le_trans (forget_len _ _ _) hfl
      clear hr8 hp hfid eg hb8 hb8' hf hn en hs8 hg8 hpm hKD
      go_wp2_with (at_mapUpdate; refine wpList_mapUpdate_own _ rfl _ _ _ 59 rfl 3 83 lawI Try.underlying59 ptrE bK _ D rfl hKD8 (by unfold maxLen; omega) _ _ _ rfl rfl (keyI (a := (n.f : Nat)) (by omega) (by omega)) _ [] (ptrE_some g) ?_; intro w9 hown9 hg9; go_frame)
      have hrg9 := hrg8.kept hg9 (fun e => by have h1 : bn = bK := (by injection e); have h2 := EK.out; omega) (fun e => by have h1 : gr = bK := (by injection e); have h2 := HGR.out; omega)
      go_roundw
      case rel =>
        refine ⟨_, cnt8, D.put (kk (n.f : Nat)) (.lit (.int .i64 (g : Nat))), hrg9, ?_, ?_, ?_⟩
        · rw [← HS.out]
          have := HNX.out
          rw [EG.out] at this
          exact flm_len this hown9 (forget_ids HD.out)
        · rw [← HS.out]
          have := HNX.out
          rw [EG.out] at this
          exact this
        · exact HB8.out.grown hg9 (by rw [← EK.out]; exact HB8.out.size) (fun j hj => by cases hj; exact Nat.le_refl _)
      case measure => rw [hrg9.left_eq, hrg.left_eq]; exact hlt8
end Go.Proofs.Ytdaelblapgcljaa.Fx
