/- Package disk: Rename, Remove. -/
import Derived.Test.YtdaelblapgcljaaDkJ
namespace Go.Proofs.Ytdaelblapgcljaa.Fx
open Go.ChangeShapes Go.WideShapes Go.ChangeAt Go.RowKit Go.Maps
set_option linter.unusedVariables false

theorem renameD_no {d : Dsk} {s t : ByteArray} {c : Int} (h : NoD d s c) : renameD d s t = ((opD d).1, c) := by
  unfold renameD
  rcases h with ⟨rfl, h2⟩ | ⟨h1, h2, h3⟩
  · show (if (opD d).2 ≠ 0 then opD d else _) = _
    rw [if_pos h2]
  · simp only [h1, ne_eq, not_true_eq_false, if_false, h3, h2]
theorem renameD_arg {d : Dsk} {s t : ByteArray} {n : Nam} (h : (opD d).2 = 0) (hl : lookD d.names s = some n) (ht : ¬ nameD t) : renameD d s t = ((opD d).1, 2) := by
  unfold renameD
  simp only [h, ne_eq, not_true_eq_false, if_false, hl, ht, not_false_eq_true, if_true]
theorem renameD_same {d : Dsk} {s : ByteArray} {n : Nam} (h : (opD d).2 = 0) (hl : lookD d.names s = some n) (ht : nameD s) : renameD d s s = ((opD d).1, 0) := by
  unfold renameD
  simp only [h, ne_eq, not_true_eq_false, if_false, hl, ht, if_true]
theorem renameD_yes {d : Dsk} {s t : ByteArray} {n : Nam} (h : (opD d).2 = 0) (hl : lookD d.names s = some n) (ht : nameD t) (hne : s ≠ t) : renameD d s t = (changeD (opD d).1 ⟨s, t, n.f⟩, 0) := by
  unfold renameD
  simp only [h, ne_eq, not_true_eq_false, if_false, hl, ht, hne]
theorem removeD_no {d : Dsk} {s : ByteArray} {c : Int} (h : NoD d s c) : removeD d s = ((opD d).1, c) := by
  unfold removeD
  rcases h with ⟨rfl, h2⟩ | ⟨h1, h2, h3⟩
  · show (if (opD d).2 ≠ 0 then opD d else _) = _
    rw [if_pos h2]
  · simp only [h1, ne_eq, not_true_eq_false, if_false, h3, h2]
theorem removeD_yes {d : Dsk} {s : ByteArray} {n : Nam} (h : (opD d).2 = 0) (hl : lookD d.names s = some n) : removeD d s = (changeD (opD d).1 ⟨s, ByteArray.empty, 0⟩, 0) := by
  unfold removeD
  simp only [h, ne_eq, not_true_eq_false, if_false, hl]
set_option maxRecDepth 100000 in
set_option maxHeartbeats 4000000 in
theorem dremove_c {w : World} {k : Dk} {d : Dsk} (h : DAt w k d) (ho : DOl d) (hs : SmD d) (h1 : d.ops + 1 ≤ 1073741824) {s : ByteArray} (hz : s.size ≤ maxLen) :
    Calls Try.prog 27 #[.pointer (some ⟨k.p, 0, none⟩), .string s] w fun e w' => e = .returned (.int .i64 (removeD d s).2) ∧ ∃ k', DRes w w' k d k' (removeD d s).1 := by
  have H := hid (dfind_c h ho hs h1 hz)
  have HN := hid ho.nm
  have HL := hid (Nat.le_trans ho.nlen hs.next)
  have HC := hid hs.chg
  have HZ := hid hz
  obtain ⟨p, ep⟩ : ∃ p, k.p = p := ⟨_, rfl⟩
  have EP := hid ep
  rw [ep] at H ⊢
  rcases findV_cases k d s with ⟨c, hc, hv, hno⟩ | ⟨n, h0, hl, hv⟩
  · have HD := hid (removeD_no hno)
    rw [hv] at H
    have hne : (c == 0) = false := by rcases hc with rfl | rfl | rfl <;> rfl
    clear h ho hs ep hv hno hc h1 hz
    go_enter Try.func27, Try.ntmps27
    go_wp2_with fail
    refine H.out.mono ?_
    rintro e w1 ⟨rfl, hR⟩
    have hR := hid hR
    go_wp2_with fail
    go_ret
    exact ⟨cret_i (by rw [HD.out]), _, by rw [HD.out]; exact hR.out⟩
  · have HD := hid (removeD_yes h0 hl)
    rw [hv] at H
    obtain ⟨g, eg⟩ : ∃ g, k.bl n.f = g := ⟨_, rfl⟩
    rw [eg] at H
    clear h ho hs ep hv h0 hl eg h1 hz
    go_enter Try.func27, Try.ntmps27
    go_wp2_with fail
    refine H.out.mono ?_
    rintro e w1 ⟨rfl, hR⟩
    have hR := hid hR
    have HCC := hid (dchange_c hR.out.at_ (show NmOk d.names from HN.out) (show d.names.length ≤ 1073741824 from HL.out) (show d.chg.length ≤ 1073741824 from HC.out) (c := ⟨s, ByteArray.empty, 0⟩) (.inl ⟨rfl, rfl⟩) HZ.out (Nat.zero_le _))
    rw [EP.out] at HCC
    go_wp2_with fail
    refine HCC.out.mono ?_
    rintro e w6 ⟨rfl, k6, hR6⟩
    have hR6 := hid hR6
    go_wp2_with fail
    go_ret
    exact ⟨cret_i (by rw [HD.out]), k6, by rw [HD.out]; exact hR.out.then_ hR6.out⟩
set_option maxRecDepth 100000 in
set_option maxHeartbeats 4000000 in
theorem drename_c {w : World} {k : Dk} {d : Dsk} (h : DAt w k d) (ho : DOl d) (hs : SmD d) (h1 : d.ops + 1 ≤ 1073741824) {s t : ByteArray} (hz : s.size ≤ maxLen) (hzt : t.size ≤ maxLen) :
    Calls Try.prog 30 #[.pointer (some ⟨k.p, 0, none⟩), .string s, .string t] w fun e w' => e = .returned (.int .i64 (renameD d s t).2) ∧ ∃ k', DRes w w' k d k' (renameD d s t).1 := by
  have H := hid (dfind_c h ho hs h1 hz)
  have HN := hid ho.nm
  have HL := hid (Nat.le_trans ho.nlen hs.next)
  have HC := hid hs.chg
  have HZ := hid hz
  have HO := hid ho
  have HX := hid hs.next
  have HI := hid (fun (v : World) => disname_c (w := v) hzt)
  obtain ⟨p, ep⟩ : ∃ p, k.p = p := ⟨_, rfl⟩
  have EP := hid ep
  rw [ep] at H ⊢
  rcases findV_cases k d s with ⟨c, hc, hv, hno⟩ | ⟨n, h0, hl, hv⟩
  · have HD := hid (renameD_no (t := t) hno)
    rw [hv] at H
    have hne : (c == 0) = false := by rcases hc with rfl | rfl | rfl <;> rfl
    clear h ho hs ep hv hno hc h1 hz hzt
    go_enter Try.func30, Try.ntmps30
    go_wp2_with fail
    refine H.out.mono ?_
    rintro e w1 ⟨rfl, hR⟩
    have hR := hid hR
    go_wp2_with fail
    go_ret
    exact ⟨cret_i (by rw [HD.out]), _, by rw [HD.out]; exact hR.out⟩
  · rw [hv] at H
    obtain ⟨g, eg⟩ : ∃ g, k.bl n.f = g := ⟨_, rfl⟩
    rw [eg] at H
    have hpos : 0 < n.f := by
      obtain ⟨f, hf, _, e⟩ := ho.ok.file hl
      have := ho.pos f hf; omega
    have hle : n.f ≤ 1073741824 := by
      have := idOf_le ho s
      unfold idOf at this; rw [hl] at this
      have h2 : n.f ≤ d.next := this
      have := hs.next; omega
    have hid0 : idOf d.names s = n.f := by unfold idOf; rw [hl]; rfl
    by_cases ht : nameD t
    · have hn1 : decide (nameD t) = true := decide_eq_true ht
      rw [hn1] at HI
      by_cases hst : s = t
      · subst hst
        have HD := hid (renameD_same h0 hl ht)
        have q1 := str_yes (a := s) (b := s) rfl
        clear h ho hs ep hv h0 hl eg h1 hz hzt ht hn1 hid0
        go_enter Try.func30, Try.ntmps30
        go_wp2_with fail
        refine H.out.mono ?_
        rintro e w1 ⟨rfl, hR⟩
        have hR := hid hR
        go_wp2_with fail
        refine (HI.out w1).mono ?_
        rintro e w1' ⟨rfl, rfl⟩
        go_wp2_with fail
        go_ret
        exact ⟨cret_i (by rw [HD.out]), _, by rw [HD.out]; exact hR.out⟩
      · have HD := hid (renameD_yes h0 hl ht hst)
        have q1 := str_no hst
        have HT := hid ht
        have HI0 := hid hid0
        obtain ⟨bn, en⟩ : ∃ p, k.bn = p := ⟨_, rfl⟩
        have EN := hid en
        obtain ⟨j, ej⟩ : ∃ j, n.f = j := ⟨_, rfl⟩
        have EJ := hid ej
        rw [ej] at hpos hle
        clear h ho hs ep hv h0 hl eg h1 hz hzt ht hn1 hid0 hst en ej
        go_enter Try.func30, Try.ntmps30
        go_wp2_with fail
        refine H.out.mono ?_
        rintro e w1 ⟨rfl, hR⟩
        have hR := hid hR
        go_wp2_with fail
        refine (HI.out w1).mono ?_
        rintro e w1' ⟨rfl, rfl⟩
        obtain ⟨-, c1, -⟩ := hR.out.at_.cells
        have l1 := hR.out.at_.rest.look HZ.out
        rw [EP.out, EN.out] at c1
        rw [EN.out, show idOf (opD d).1.names s = j from HI0.out.trans EJ.out] at l1
        have HCC := hid (dchange_c hR.out.at_ (show NmOk d.names from HN.out) (show d.names.length ≤ 1073741824 from HL.out) (show d.chg.length ≤ 1073741824 from HC.out) (c := ⟨s, t, j⟩) (.inr ⟨HT.out, hpos⟩) HZ.out hle)
        rw [EP.out] at HCC
        go_wp2_with fail
        refine HCC.out.mono ?_
        rintro e w6 ⟨rfl, k6, hR6⟩
        have hR6 := hid hR6
        go_wp2_with fail
        go_ret
        exact ⟨cret_i (by rw [HD.out]), k6, by rw [HD.out, EJ.out]; exact hR.out.then_ hR6.out⟩
    · have hn1 : decide (nameD t) = false := decide_eq_false ht
      rw [hn1] at HI
      have HD := hid (renameD_arg h0 hl ht)
      clear h ho hs ep hv h0 hl eg h1 hz hzt ht hn1 hid0
      go_enter Try.func30, Try.ntmps30
      go_wp2_with fail
      refine H.out.mono ?_
      rintro e w1 ⟨rfl, hR⟩
      have hR := hid hR
      go_wp2_with fail
      refine (HI.out w1).mono ?_
      rintro e w1' ⟨rfl, rfl⟩
      go_wp2_with fail
      go_ret
      exact ⟨cret_i (by rw [HD.out]), _, by rw [HD.out]; exact hR.out⟩
end Go.Proofs.Ytdaelblapgcljaa.Fx
