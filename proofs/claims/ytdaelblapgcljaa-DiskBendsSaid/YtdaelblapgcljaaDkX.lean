/- Package disk: List. -/
import Derived.Test.YtdaelblapgcljaaDkW
import Derived.Sort.OwnSorted
namespace Go.Proofs.Ytdaelblapgcljaa.Fx
open Go.ChangeShapes Go.WideShapes Go.ChangeAt Go.RowKit Go.Maps Go.Sort Go.Shelf
set_option linter.unusedVariables false

def bytesN (n : Nam) : List UInt8 := n.s.data.toList
/-- the names, in order -/
def listD (d : Dsk) : List (List UInt8) := (d.names.map bytesN).mergeSort fun x y => decide (x ≤ y)
theorem listD_len (d : Dsk) : (listD d).length = d.names.length := by unfold listD; rw [List.length_mergeSort, List.length_map]
theorem infoStr : (Try.prog.info? 9).map (fun i => (i.zero, i.size, i.bytes)) = some (some (.string ByteArray.empty), 1, 16) := by kernel_rfl
theorem iter_of {P : Program} {k : TypeId} {R : Value → Option (DataW Unit × List MemPlace)} {w : World} {b r n : Nat} {D : DataW Unit} {left : Lit → Bool} {cnt : Nat} (h : w.ranges P k R b r n D left cnt) : ∃ x y z t, w.heap[r]? = some (.mapIter x y z t) := by
  obtain ⟨es, clock, since, seen, c0, _, _, _, _, h, _⟩ := h
  exact ⟨_, _, _, _, h⟩
theorem encStr_of (s : ByteArray) : Value.string s = encStr s.data.toList := by cases s; rfl
theorem sort_str_c {w : World} {g cap : Nat} {ss : List (List UInt8)} {base : Nat} {cur : Array Value} (hb : base ≤ g) (hh : w.heap[g]? = some (.cells cur 9 (0, 0))) (h1 : ss.length ≤ cap) (h2 : cap ≤ maxLen) (h3 : cur.size = cap * 1) (ht : cur.toList.take ss.length = ss.map encStr) (hl : ss.length ≤ 1073741824) :
    Calls Try.prog 50 #[.slice (some ⟨g, 0, none⟩) ss.length cap] w fun e w' => e = .returned (.tuple #[]) ∧ w'.ownsRow base 9 1 (.slice (some ⟨g, 0, none⟩) ss.length cap) ss.length ((ss.mergeSort fun x y => decide (x ≤ y)).map encStr) ∧ Tn (fun b => b = g) w w' := by
  have hH : Holds encStr w g 0 ss.toArray := holds_of_block hh ht
  refine (AnyM.slices_Sort_string laySS g 0 cap ss w hH (Array.getElem?_eq_some_iff.1 hh).1 (by omega)).mono ?_
  rintro e w' ⟨rfl, n, os, rfl⟩
  refine ⟨rfl, ownsRow_sorted (List.length_mergeSort ..) hb hh h1 h2 h3, (tn_grown (grownBy_sorted _)).up fun b hb => .inl ?_⟩
  injection hb
theorem sort_str_none (p : Option Addr) (cap : Nat) (w : World) : Calls Try.prog 50 #[.slice p 0 cap] w fun e w' => e = .returned (.tuple #[]) ∧ w' = w := AnyM.slices_Sort_string_none laySS p cap w
set_option maxRecDepth 100000 in
set_option maxHeartbeats 8000000 in
theorem dlist_c {w : World} {k : Dk} {d : Dsk} (h : DAt w k d) (ho : DOl d) (hs : SmD d) :
    Calls Try.prog 26 #[.pointer (some ⟨k.p, 0, none⟩)] w fun e w' => ∃ v, e = .returned (.tuple #[v, .int .i64 (opD d).2]) ∧ DRes w w' k d k (opD d).1 ∧ (∀ g, v.ownBlock = some g → w.heap.size ≤ g ∧ ¬ Foot k (opD d).1 g) ∧ ((opD d).2 ≠ 0 → v = .slice none 0 0) ∧ ((opD d).2 = 0 → w'.ownsRow w.heap.size 9 1 v d.names.length ((listD d).map encStr)) := by
  have H := hid (dbegin_c h hs)
  have HO := hid ho.op
  have hnl : d.names.length ≤ 1073741824 := Nat.le_trans ho.nlen hs.next
  obtain ⟨i1, hi1, hz0, hz1, hz2⟩ := info_parts infoStr
  obtain ⟨p, ep⟩ : ∃ p, k.p = p := ⟨_, rfl⟩
  obtain ⟨bn, en⟩ : ∃ p, k.bn = p := ⟨_, rfl⟩
  obtain ⟨r, er⟩ : ∃ r, (opD d).2 = r := ⟨_, rfl⟩
  have EP := hid (And.intro ep en)
  rw [ep] at H ⊢
  rw [er] at H ⊢
  by_cases hr0 : r = 0
  · subst hr0
    have HNL := hid hnl
    clear h ho hs ep en er
    go_enter Try.func26, Try.ntmps26
    go_wp2_with fail
    refine H.out.mono ?_
    rintro e w1 ⟨rfl, hR⟩
    have hR := hid hR
    obtain ⟨-, c1, -⟩ := hR.out.at_.cells
    rw [EP.out.1, EP.out.2] at c1
    obtain ⟨D, hown, hmap⟩ := hR.out.at_.rest.mn
    rw [EP.out.2] at hown
    have HM : Hid (NM D d.names) := hmap
    obtain ⟨m, em⟩ : ∃ m, (opD d).1.names.length = m := ⟨_, rfl⟩
    rw [em] at hown
    have EM := hid em
    clear hmap em
    go_wp2_with (at_range; refine wpList_range_own _ rfl _ 58 rfl 9 3 lawS Try.underlying58 (plainElem Try.prog 3) bn m D rfl hown ?_; intro w0 hrg0 hg0 hs0)
    go_frame
    have HB0 : Hid (Below w1.heap.size w1 w0) := (Below.refl _ _).grown hg0 (Nat.le_refl _) (fun j hj => by cases hj)
    obtain ⟨gr, egr⟩ : ∃ g, w1.heap.size = g := ⟨_, rfl⟩
    rw [egr] at hrg0 HB0 ⊢
    have EG := hid egr
    have hbn : bn < gr := egr ▸ hown.lt
    clear hg0 hs0 egr c1 hown
    go_loopw [5] (fun s wr => ∃ (left : Lit → Bool) (cnt : Nat) (vs : List (List UInt8)), wr.ranges Try.prog 9 (plainElem Try.prog 3) bn gr m D left cnt ∧ wr.ownsRow gr 9 1 s vs.length (vs.map encStr) ∧ Hid (vs.Perm ((doneL keN left d.names).map bytesN) ∧ Below gr w1 wr)) (fun _ wr => wr.rangeLeft bn gr)
    case atStart => exact ⟨_, _, [], hrg0, World.ownsRow_nil _ _ _ _, by rw [done_start fun n hn => HM.out.yes hn]; exact List.Perm.refl _, HB0.out⟩
    case round =>
      obtain ⟨left, cnt, vs, hrg, hvs, HB⟩ := hrel
      go_wp2_with (at_next; refine wpList_next_ranges _ rfl _ rfl 9 lawS (plainElem Try.prog 3) Value.string (Value.int .i64) (fun key kl hk => by obtain ⟨s, e, _⟩ := keyS_inv hk; exact ⟨s, e⟩) (fun v y hv => by obtain ⟨c, rfl, _⟩ := plainElem_int_inv Try.underlying3 hv; exact ⟨c, rfl⟩) bn gr m D left cnt rfl hrg ?_ ?_)
      · intro hc0 hl0
        have hperm := HB.out.1
        rw [done_end hl0] at hperm
        have hvl : vs.length = d.names.length := by rw [hperm.length_eq, List.length_map]
        have HLS : Hid (vs.mergeSort (fun x y => decide (x ≤ y)) = listD d) := by
          unfold Hid listD
          refine List.Perm.eq_of_pairwise (le := fun x y => x ≤ y) (fun a b _ _ h1 h2 => List.le_antisymm h1 h2) ?_ ?_ ((List.mergeSort_perm _ _).trans (hperm.trans (List.mergeSort_perm _ _).symm))
          · have := List.pairwise_mergeSort (le := fun (x y : List UInt8) => decide (x ≤ y)) (fun a b c h1 h2 => by simp at *; exact List.le_trans h1 h2) (fun a b => by simp; exact List.le_total a b) vs
            exact this.imp fun hh => by simpa using hh
          · have := List.pairwise_mergeSort (le := fun (x y : List UInt8) => decide (x ≤ y)) (fun a b c h1 h2 => by simp at *; exact List.le_trans h1 h2) (fun a b => by simp; exact List.le_total a b) (d.names.map bytesN)
            exact this.imp fun hh => by simpa using hh
        have HVL := hid hvl
        have HBB := hid HB.out.2
        have hl2 : vs.length ≤ 1073741824 := by rw [hvl]; exact HNL.out
        clear hperm hrg hl0 HB hvl
        rcases hvs.2 with ⟨rfl, h0⟩ | ⟨g, cap, cur, rfl, hb, hh, h1, h2, h3, h4⟩
        · have hv0 : vs = [] := List.eq_nil_of_length_eq_zero h0
          subst hv0
          have HQ := hid (sort_str_none none 0 wr)
          clear hvs
          go_wp2_with fail
          refine HQ.out.mono ?_
          rintro e w5 ⟨rfl, rfl⟩
          go_wp2_with fail
          refine bodyPost_ret (v := .tuple #[.slice none 0 0, .int .i64 0]) (by simp [results, Try.results26, go_sem]) rfl ?_
          refine ⟨_, rfl, hR.out.then_ (DRes.below hR.out.at_ (by rw [EG.out]; exact HBB.out)), fun g hg => (by cases hg), fun h => absurd rfl h, fun _ => ?_⟩
          rw [← HVL.out, ← HLS.out, show ([] : List (List UInt8)).mergeSort (fun x y => decide (x ≤ y)) = [] by simp]
          exact World.ownsRow_nil _ _ _ _
        · have HQ := hid (sort_str_c hb hh h1 h2 h3 (by simpa using h4) hl2)
          have HGB := hid hb
          obtain ⟨N, eN⟩ : ∃ N, vs.length = N := ⟨_, rfl⟩
          rw [eN] at HQ ⊢
          have EN := hid eN
          clear hvs hb hh h1 h2 h3 h4 eN
          go_wp2_with fail
          refine HQ.out.mono ?_
          rintro e w5 ⟨rfl, hrow, ht⟩
          have hrow := hid hrow; have ht := hid ht
          go_wp2_with fail
          refine bodyPost_ret (v := .tuple #[.slice (some ⟨g, 0, none⟩) N cap, .int .i64 0]) (by simp [results, Try.results26, go_sem]) rfl ?_
          have hb5 : Below w1.heap.size w1 w5 := by rw [EG.out]; exact Tn.below_ HBB.out ht.out (by rw [← EG.out]; exact HBB.out.size) (fun b hb => by rw [hb]; exact HGB.out)
          refine ⟨_, rfl, hR.out.then_ (DRes.below hR.out.at_ hb5), fun g' hg => ?_, fun h => absurd rfl h, fun _ => ?_⟩
          · have hg : g = g' := by injection hg
            subst hg
            have h1 := HGB.out
            have h2 := EG.out
            have h3 := hR.out.tn.size
            refine ⟨by omega, fun hf => ?_⟩
            have := hR.out.at_.lt hf
            omega
          · have h5 := hrow.out
            rw [HLS.out] at h5
            rw [← HVL.out, EN.out]
            obtain ⟨h6, h7⟩ := h5
            refine ⟨h6, h7.imp id ?_⟩
            rintro ⟨g', cap', cur', e, hb', r⟩
            refine ⟨g', cap', cur', e, ?_, r⟩
            have h2 := EG.out
            have h3 := hR.out.tn.size
            omega
      · intro x c kl yd yp w8 cnt8 hkey hlk hv hat hrg8 hlt8 hg8 hs8 hen0
        obtain ⟨s', es, ekl, hsz⟩ := keyS_inv hkey
        cases es
        subst ekl
        obtain ⟨n, hn, en, ec⟩ := nm_come HM.out hv hat
        have hb8 : Below gr w1 w8 := HB.out.2.grown hg8 (by rw [← EG.out]; exact HB.out.2.size) (fun j hj => by cases hj; exact Nat.le_refl _)
        have hno : ∀ g, u5.ownBlock = some g → g ≠ gr := fun g hg e => by
          obtain ⟨cur, hc⟩ := own_ty hvs hg
          obtain ⟨a1, a2, a3, a4, hi⟩ := iter_of hrg
          rw [e, hi] at hc; cases hc
        have hvs8 : w8.ownsRow gr 9 1 u5 vs.length (vs.map encStr) := own_tn hvs (tn_grown hg8) (fun g hg e => hno g hg (by injection e))
        obtain ⟨A, eA⟩ : ∃ A, A = w8.alloc (.cells #[.string x] 9) := ⟨_, rfl⟩
        have hvA : A.ownsRow gr 9 1 u5 vs.length (vs.map encStr) := by rw [eA]; exact own_tn hvs8 (tn_alloc w8 _ NilB) (fun _ _ h => h)
        have hpm := done_step (key := keN) (left := left) (fun n => sk_key n.s) (names_keys HO.out.nm.apart) hn (by rw [← en] at hlk; exact hlk)
        have hvl : vs.length ≤ 1073741824 := by
          have := HB.out.1.length_eq
          rw [List.length_map] at this
          have h2 : (doneL keN left d.names).length ≤ d.names.length := List.length_filter_le _ _
          have := HNL.out
          omega
        have hgrA : gr ≤ A.heap.size := by rw [eA]; have := hrg8.lt; simp; omega
        obtain ⟨v', w4, hrun, hown4, hg4, hnil4, hat4⟩ := run_append_own_at (P := Try.prog) A gr 51 51 9 i1 _ 1 16 Try.underlying51 hi1 hz0 hz1 hz2 rfl (by omega) u5 vs.length (vs.map encStr) hvA ⟨w8.heap.size, 0, none⟩ 1 1 [.string x] rfl (fun j u hj => by
          rw [Addr.add_lit, Nat.zero_add, eA, (has_new w8 _ _).at_ j]
          simpa using hj) (fun u hu => by rw [List.mem_singleton.1 hu]; rfl) (by unfold maxLen; omega) (by omega) hgrA
        have hA1 : Below w8.heap.size w8 A := by rw [eA]; exact below_new w8 _
        have hrgA := hrg8.alloc (.cells #[.string x] 9)
        rw [← eA] at hrgA
        have hrg4 := hrgA.kept hg4 (fun e => by
          obtain ⟨cur, hc⟩ := own_ty hvA e.symm
          obtain ⟨es', cl, hb'⟩ := map_obj hrgA.owns
          rw [hb'] at hc; cases hc) (fun e => by
          obtain ⟨cur, hc⟩ := own_ty hvA e.symm
          obtain ⟨a1, a2, a3, a4, hi⟩ := iter_of hrgA
          rw [hi] at hc; cases hc)
        have HS := hid en
        have HPM := hid hpm
        have HB4 : Hid (Below gr w1 w4) := Tn.below_ (hb8.trans (hA1.mono (by have := hrg8.lt; omega))) (tn_grown hg4) hgrA (fun b hb => by
          rcases hvA.2 with ⟨e, _⟩ | ⟨g', cap, cur, e, hb', _⟩
          · rw [e] at hb; cases hb
          · rw [e] at hb; have : b = g' := by injection hb
            omega)
        have hown4' : w4.ownsRow gr 9 1 v' (vs ++ [x.data.toList]).length ((vs ++ [x.data.toList]).map encStr) := by
          rw [List.map_append, List.length_append]
          show w4.ownsRow gr _ 1 v' (vs.length + 1) (vs.map encStr ++ [encStr x.data.toList])
          rw [← encStr_of]
          exact hown4
        have HO4 := hid hown4'
        rw [eA] at hrun
        have HRUN := hid hrun
        clear hvs hvs8 hvA hrun hown4 hg4 hnil4 hat4 hA1 hrgA hgrA hpm hn en hb8 hg8 hs8 hno eA hown4'
        go_wp2_with (at_builtin; refine Lib.wpList_append_run _ rfl _ _ _ _ rfl _ _ rfl rfl _ _ HRUN.out ?_; go_frame)
        go_roundw
        case rel =>
          refine ⟨_, cnt8, vs ++ [x.data.toList], hrg4, HO4.out, ?_, HB4.out⟩
          have h1 := HPM.out
          have h2 : (vs ++ [x.data.toList]).Perm (bytesN n :: (doneL keN left d.names).map bytesN) := by
            have e2 : bytesN n = x.data.toList := by unfold bytesN; rw [HS.out]
            rw [e2]
            exact (List.perm_append_singleton _ _).trans (List.Perm.cons _ HB.out.1)
          have h3 := h1.map bytesN
          rw [show keN n = sk x by show sk n.s = _; rw [HS.out]] at h3
          exact h2.trans h3.symm
        case measure => rw [hrg4.left_eq, hrg.left_eq]; exact hlt8
  · have hne : (r == 0) = false := by simpa using hr0
    have hr0 := hid hr0
    clear h ho hs ep en er hnl
    go_enter Try.func26, Try.ntmps26
    go_wp2_with fail
    refine H.out.mono ?_
    rintro e w1 ⟨rfl, hR⟩
    have hR := hid hR
    go_wp2_with fail
    refine bodyPost_ret (v := .tuple #[.slice none 0 0, .int .i64 r]) (by simp [results, Try.results26, go_sem]) rfl ?_
    exact ⟨_, rfl, hR.out, (fun g hg => by cases hg), (fun _ => rfl), fun h => absurd h hr0.out⟩
end Go.Proofs.Ytdaelblapgcljaa.Fx
