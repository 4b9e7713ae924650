/- What the sorts and the clone leave: fromLeft, and the sorted pairs. -/
import Derived.Test.YtmfkcdinfahjlaaSwS
namespace Go.Proofs.Ytmfkcdinfahjlaa.Fx
open Go.ChangeShapes Go.WideShapes Go.ChangeAt Go.RowKit
set_option linter.unusedVariables false

section
variable {α : Type} [Inhabited α] {enc : α → List Value} {k : Nat}
theorem holdsK_own (hk : ∀ x, (enc x).length = k) {w : World} {base g cap : Nat} {t : TypeId} {l : List α} (h : w.ownsRow base t k (.slice (some ⟨g, 0, none⟩) l.length cap) l.length (flatE enc l)) (hl : 0 < l.length) :
    Go.Sort.HoldsK enc k w g 0 l.toArray ∧ g < w.heap.size ∧ base ≤ g := by
  rcases h.2 with ⟨hv, h0⟩ | ⟨g', cap', cur, hv, hb, hh, hc, hm, hs, ht⟩
  · omega
  · have e : g' = g := by
      injection hv with e1
      injection e1 with e2
      injection e2 with e3
      exact e3.symm
    subst e
    have hG : Has w g' t cur := hh
    refine ⟨fun j hj => ⟨?_, hG.free _⟩, hG.here, hb⟩
    rw [Go.Sort.size_flatK, List.size_toArray] at hj
    have k0 : 0 < k := by
      rcases Nat.eq_zero_or_pos k with e | e
      · subst e; simp at hj
      · exact e
    have hi : j / k < l.length := Nat.div_lt_of_lt_mul (by rw [Nat.mul_comm]; exact hj)
    have hr : j % k < k := Nat.mod_lt _ k0
    have ej : j / k * k + j % k = j := by rw [Nat.mul_comm]; exact Nat.div_add_mod j k
    have hx : l[j / k]? = some l[j / k] := List.getElem?_eq_getElem hi
    have e1 := flatE_at hk l (j / k) _ hx (j % k) hr
    rw [ej] at e1
    rw [Go.Sort.get_flatK _ _ _ _ (by rw [List.size_toArray]; exact hj), Nat.zero_add, hG.at_]
    have e2 : l.toArray[j / k]! = l[j / k] := by rw [getElem!_pos _ _ (by rw [List.size_toArray]; exact hi)]; simp
    rw [e2]
    have hlen : j % k < (enc l[j / k]).length := by rw [hk]; exact hr
    rw [getElem!_pos (enc l[j / k]) (j % k) hlen]
    have e3 : cur[j]? = (flatE enc l)[j]? := by
      rw [← ht, List.getElem?_take, if_pos hj]
      simp
    rw [e3, e1]
    exact List.getElem?_eq_getElem hlen
theorem lsB_holdsK (hk : ∀ x, (enc x).length = k) {w : World} {g : Nat} {d : Array α} (h : Go.Sort.HoldsK enc k w g 0 d) : LsB enc k w g 0 d.toList := by
  intro i x hi j v hv
  have hi' : i < d.size := by
    have := (List.getElem?_eq_some_iff.1 hi).1
    simpa using this
  have hj : j < k := by rw [← hk x]; exact (List.getElem?_eq_some_iff.1 hv).1
  have := (h.cell hi' hj).1
  have ex : d[i]! = x := by
    rw [getElem!_pos d i hi']
    have := List.getElem?_eq_some_iff.1 hi
    simpa using this.2
  rw [ex] at this
  rw [this]
  have hl : j < (enc x).length := by rw [hk]; exact hj
  rw [getElem!_pos (enc x) j hl]
  rw [← hv]
  exact (List.getElem?_eq_getElem hl).symm
theorem below_sorted {w : World} {B g off n : Nat} {d : Array α} {os : Array Obj} (hB : B ≤ g) (hg : g < w.heap.size) : Below B w (Go.Proofs.sortWorldK enc k w g off n d os) := by
  refine ⟨rfl, rfl, rfl, Go.Proofs.size_sortWorldK_c enc k w g off n d os, fun i hi => ?_⟩
  unfold Go.Proofs.sortWorldK Go.Sort.grow Go.Sort.putRowK Go.Sort.putRow Go.Sort.mapBlock Go.Sort.ahead
  simp only []
  rw [Array.getElem?_append_left (by rw [Array.size_modify]; omega), Array.getElem?_modify, if_neg (by omega)]
theorem perm_of (d d' : Array α) (h : Go.Sort.PermIn 0 d.size d d') : d'.toList.Perm d.toList ∧ d'.size = d.size := by
  obtain ⟨hsz, _, hperm⟩ := h
  have e1 : d'.extract 0 d.size = d' := by rw [← hsz]; exact Array.extract_size
  rw [e1, Array.extract_size] at hperm
  exact ⟨hperm, hsz⟩
end

set_option maxRecDepth 100000 in
theorem agP (w : World) : (isAgg 58).run Try.prog w = .ok true w := Try.isAgg58 w
set_option maxRecDepth 100000 in
/-- the pairs are sorted -/
theorem sort_pairs {L : List (Int × Int)} {w : World} {base : Nat} {v : Value} (h : w.ownsRow base 58 2 v L.length (flatE encP L)) (hl : L.length < 100000) :
    ∃ ao c, v = .slice ao L.length c ∧ Calls Try.prog 38 #[v, .func (.func 39) #[] #[]] w fun e w' => e = .returned (.tuple #[]) ∧ LsT encP 2 w' ao (sortP L) ∧ (∀ g off, ao = some ⟨g, off, none⟩ → base ≤ g ∧ g < w'.heap.size) ∧ Below base w w' := by
  rcases Nat.eq_zero_or_pos L.length with h0 | h0
  · obtain ⟨ao, c, hv, hcap, h1, h2⟩ := LsT.of_own encP_len h
    refine ⟨ao, c, hv, ?_⟩
    subst hv
    rw [h0]
    refine (Go.Proofs.AnyF.slices_SortFunc_none layP ao c _ w).mono ?_
    rintro e w' ⟨rfl, rfl⟩
    have hL : L = [] := List.length_eq_zero_iff.1 h0
    refine ⟨rfl, fun hl => ?_, h2, Below.refl _ _⟩
    rw [(sortP_perm L).length_eq, h0] at hl
    omega
  · rcases h.2 with ⟨_, h1⟩ | ⟨g, cap, cur, hv, _⟩
    · omega
    · refine ⟨_, cap, hv, ?_⟩
      subst hv
      obtain ⟨hH, hg, hb⟩ := holdsK_own encP_len h h0
      have hc := Go.Proofs.AnyQ.slices_SortFunc_total layP 2 Try.isAgg58 Try.sizeOf58 encP encP_len encP_one cmpP swoP 39 #[] g 0 cap L.toArray w (enters_of Try.func39 (by kernel_rfl) rfl) (fun _ _ _ _ x y => closeP x y _) hH hg (by simp; omega) totalP
      rw [List.size_toArray] at hc
      refine hc.mono ?_
      rintro e w' ⟨rfl, n, os, rfl⟩
      have hs : sortP L = (L.mergeSort fun x y => !(ltOf cmpP) y x) := by
        unfold sortP
        congr 1
        funext x y
        rw [ltP_eq]; rfl
      have hsz : (L.mergeSort fun x y => !(ltOf cmpP) y x).toArray.size = L.toArray.size := by simp
      have hH' := Go.Proofs.holdsK_sortWorldK_c encP 2 w g 0 L.toArray (L.mergeSort fun x y => !(ltOf cmpP) y x).toArray n os hH hg hsz
      have hB : Below base w (Go.Proofs.sortWorldK encP 2 w g 0 n (L.mergeSort fun x y => !(ltOf cmpP) y x).toArray os) := below_sorted hb hg
      refine ⟨rfl, fun _ => ⟨g, 0, rfl, Nat.lt_of_lt_of_le hg hB.size, ?_⟩, fun g' off e => ?_, hB⟩
      · rw [hs]
        exact lsB_holdsK encP_len hH'
      · cases e
        exact ⟨hb, Nat.lt_of_lt_of_le hg hB.size⟩

set_option maxRecDepth 100000 in
/-- the items are sorted by their left sides -/
theorem sort_items {l : List It} {w : World} {base : Nat} {v : Value} (h : w.ownsRow base 61 6 v l.length (flatE encI l)) (hl : l.length < 100000) :
    ∃ ao c, v = .slice ao l.length c ∧ l.length ≤ c ∧ Calls Try.prog 60 #[v, .func (.func 61) #[] #[]] w fun e w' => e = .returned (.tuple #[]) ∧ ∃ l', l'.Perm l ∧ l'.Pairwise (fun x y => x.lx ≤ y.lx) ∧ LsT encI 6 w' ao l' ∧ (∀ g off, ao = some ⟨g, off, none⟩ → base ≤ g ∧ g < w'.heap.size) ∧ Below base w w' := by
  rcases Nat.eq_zero_or_pos l.length with h0 | h0
  · obtain ⟨ao, c, hv, hcap, h1, h2⟩ := LsT.of_own encI_len h
    refine ⟨ao, c, hv, hcap, ?_⟩
    subst hv
    rw [h0]
    refine (Go.Proofs.AnyF.slices_SortFunc_none layI ao c _ w).mono ?_
    rintro e w' ⟨rfl, rfl⟩
    have hL : l = [] := List.length_eq_zero_iff.1 h0
    refine ⟨rfl, l, List.Perm.refl _, by rw [hL]; exact List.Pairwise.nil, h1, h2, Below.refl _ _⟩
  · rcases h.2 with ⟨_, h1⟩ | ⟨g, cap, cur, hv, _, _, hcap, _⟩
    · omega
    · refine ⟨_, cap, hv, hcap, ?_⟩
      subst hv
      obtain ⟨hH, hg, hb⟩ := holdsK_own encI_len h h0
      have hc := Go.Proofs.AnyQ.slices_SortFunc layI 6 Try.isAgg61 Try.sizeOf61 encI encI_len encI_one (fun x y : It => cmpF x.lx y.lx) swoI 61 #[] g 0 cap l.toArray w (enters_of Try.func61 (by kernel_rfl) rfl) (fun _ _ _ _ x y => closeI x y _) hH hg (by simp; omega)
      rw [List.size_toArray] at hc
      refine hc.mono ?_
      rintro e w' ⟨rfl, d', n, os, hp, hs, rfl⟩
      obtain ⟨hp1, hp2⟩ := perm_of l.toArray d' (by rw [List.size_toArray]; exact hp)
      have hH' := Go.Proofs.holdsK_sortWorldK_c encI 6 w g 0 l.toArray d' n os hH hg hp2
      have hB : Below base w (Go.Proofs.sortWorldK encI 6 w g 0 n d' os) := below_sorted hb hg
      refine ⟨rfl, d'.toList, hp1, ?_, fun _ => ⟨g, 0, rfl, Nat.lt_of_lt_of_le hg hB.size, lsB_holdsK encI_len hH'⟩, fun g' off e => ?_, hB⟩
      · rw [List.pairwise_iff_getElem]
        intro i j hi hj hij
        have hi' : i < d'.size := by simpa using hi
        have hj' : j < d'.size := by simpa using hj
        have := hs i j (Nat.zero_le _) hij (by rw [hp2, List.size_toArray] at hj'; exact hj')
        rw [getElem!_pos d' j hj', getElem!_pos d' i hi', ltI_eq] at this
        have := of_decide_eq_false this
        simp only [Array.getElem_toList]
        omega
      · cases e
        exact ⟨hb, Nat.lt_of_lt_of_le hg hB.size⟩

def Flt (ao : Option Addr) : Prop := ao = none ∨ ∃ b off, ao = some ⟨b, off, none⟩
theorem info_It : (Try.prog.info? 61).map (fun i => (i.zero, i.size, i.bytes)) = some (some (.agg #[.int .i64 0, .int .i64 0, .int .i64 0, .int .i64 0, .int .i64 0, .bool false]), 6, 48) := by kernel_rfl
set_option maxRecDepth 100000 in
/-- the clone -/
theorem clone_items {l : List It} {ao : Option Addr} {c : Nat} {w : World} (h : LsT encI 6 w ao l) (ha : Flt ao) (hl : l.length < 100000) (h0 : ao = none → l = []) :
    Calls Try.prog 59 #[.slice ao l.length c] w fun e w' => ∃ v, e = .returned v ∧ w'.ownsRow w.heap.size 61 6 v l.length (flatE encI l) ∧ Below w.heap.size w w' := by
  obtain ⟨i0, hi, hz0, hz1, hz2⟩ := info_parts info_It
  rcases ha with rfl | ⟨b, off, rfl⟩
  · have e := h0 rfl
    subst e
    refine (Go.Proofs.AnyE.slices_Clone_nil layC 0 c w).mono ?_
    rintro e w' ⟨rfl, rfl⟩
    exact ⟨_, rfl, ⟨rfl, .inl ⟨rfl, rfl⟩⟩, Below.refl _ _⟩
  · refine (Go.Proofs.AnyE.slices_Clone layC i0 _ 6 48 hi hz0 hz1 hz2 rfl (by decide) Try.sizeOf61 b off l.length c (flatE encI l) w (flatE_len encI_len l) (by unfold maxLen; omega) (by omega) ?_ (flatE_one encI_one l)).mono ?_
    · intro j u hu
      have hj : 0 < l.length := by
        have := (List.getElem?_eq_some_iff.1 hu).1
        rw [flatE_len encI_len] at this
        omega
      obtain ⟨b', off', e, hb, hc⟩ := h hj
      cases e
      exact LsT.flat_at encI_len hc j u hu
    · rintro e w' ⟨v', rfl, ho, _, hb⟩
      exact ⟨v', rfl, ho, hb⟩

set_option maxRecDepth 100000 in
set_option maxHeartbeats 1000000 in
theorem left_c {l : List It} {ao : Option Addr} {c n : Nat} {w : World} (hn : l.length = n) (h : LsT encI 6 w ao l) (ha : Flt ao) (hl : l.length < 100000) (h0 : ao = none → l = []) :
    Calls Try.prog 36 #[.slice ao n c] w fun e w' => ∃ bo d l', e = .returned (.slice bo n d) ∧ n ≤ d ∧ l'.Perm l ∧ l'.Pairwise (fun x y => x.lx ≤ y.lx) ∧ LsT encI 6 w' bo l' ∧ Below w.heap.size w w' := by
  subst hn
  have HC := hid (clone_items (c := c) h ha hl h0)
  have HS := hid (fun (w1 : World) (v : Value) (h : w1.ownsRow w.heap.size 61 6 v l.length (flatE encI l)) => sort_items h hl)
  obtain ⟨n, en⟩ : ∃ n, l.length = n := ⟨_, rfl⟩
  rw [en] at HC HS ⊢
  clear h hl en h0
  go_enter Try.func36, Try.ntmps36
  go_wp2_with fail
  refine HC.out.mono ?_
  rintro e w1 ⟨v, rfl, ho, hb⟩
  obtain ⟨bo, d, rfl, hcap, hs⟩ := HS.out _ _ ho
  have HC' := hid hcap
  have HS' := hid hs
  have HB := hid hb
  clear hs hb ho HS HC hcap
  go_wp2_with fail
  refine HS'.out.mono ?_
  rintro e w2 ⟨rfl, l', hp, hs, hL, _, hb⟩
  have HP := hid hp
  have HQ := hid hs
  have HL := hid hL
  have HB2 := hid hb
  clear hp hs hL hb
  go_wp2_with fail
  go_ret
  exact ⟨bo, d, l', rfl, HC'.out, HP.out, HQ.out, HL.out, HB.out.trans HB2.out⟩
end Go.Proofs.Ytmfkcdinfahjlaa.Fx
