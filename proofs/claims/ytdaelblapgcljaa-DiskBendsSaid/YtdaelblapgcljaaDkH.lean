/- Package disk: a change of names. -/
import Derived.Test.YtdaelblapgcljaaDkG
namespace Go.Proofs.Ytdaelblapgcljaa.Fx
open Go.ChangeShapes Go.WideShapes Go.ChangeAt Go.RowKit Go.Maps
set_option linter.unusedVariables false

/-- names that may be: none is empty, no two the same -/
structure NmOk (l : List Nam) : Prop where
  word : ∀ n ∈ l, nameD n.s
  apart : (l.map (·.s)).Pairwise (· ≠ ·)
theorem NmOk.out {l : List Nam} (h : NmOk l) (s : ByteArray) : NmOk (outD l s) := ⟨fun n hn => h.word n (out_ne hn).1, h.apart.sublist ((out_sub l s).map _)⟩
theorem NmOk.turn {l : List Nam} (h : NmOk l) {c : Chg} (hc : c.to.size = 0 ∨ nameD c.to) : NmOk (turnD l c) := by
  refine ⟨turn_words h.word hc, ?_⟩
  have h1 : NmOk (if c.fr.size = 0 then l else outD l c.fr) := by split; exact h; exact h.out _
  unfold turnD
  simp only
  split
  · exact h1.apart
  · rw [List.map_append, List.pairwise_append]
    refine ⟨(h1.out c.to).apart, by simp, fun a ha b hb => ?_⟩
    obtain ⟨n, hn, rfl⟩ := List.mem_map.mp ha
    simp at hb
    rw [hb]; exact (out_ne hn).2
theorem out_iff {l : List Nam} {s : ByteArray} {n : Nam} : n ∈ outD l s ↔ n ∈ l ∧ n.s ≠ s := by
  unfold outD
  rw [List.mem_filter]
  simp
theorem NM.len {D : DataW Unit} {l : List Nam} {w : World} {b n : Nat} (h : NM D l) (hown : w.ownsMap Try.prog 9 (plainElem Try.prog 3) b n D) (hl : NmOk l) : w.ownsMap Try.prog 9 (plainElem Try.prog 3) b l.length D := by
  have h1 := map_tight hown
  rw [MH.size h (hown.canon lawS) (names_keys hl.apart)] at h1
  exact h1
theorem ChgV.b (c : Chg) : ∀ (j : Nat) (u : Value), (#[Value.string c.fr, .string c.to, .int .i64 (c.f : Nat)] : Array Value)[j]? = some u → (encG c)[j]? = some u := by
  intro j u h
  match j, h with
  | 0, h => exact h
  | 1, h => exact h
  | 2, h => exact h
set_option maxRecDepth 100000 in
set_option maxHeartbeats 4000000 in
theorem ddo_c {w : World} {c : Chg} {b : Nat} {D : DataW Unit} {l : List Nam} (hown : w.ownsMap Try.prog 9 (plainElem Try.prog 3) b l.length D) (hm : NM D l) (hl : NmOk l) (hcz : (c.to.size = 0 ∧ c.f = 0) ∨ (nameD c.to ∧ 0 < c.f)) (hfr : c.fr.size ≤ maxLen) (hf : c.f ≤ 1073741824) (hlen : l.length ≤ 1073741824) :
    Calls Try.prog 60 #[.agg #[.string c.fr, .string c.to, .int .i64 (c.f : Nat)], .map (some b)] w fun e w' => e = .returned (.tuple #[]) ∧ (∃ D', w'.ownsMap Try.prog 9 (plainElem Try.prog 3) b (turnD l c).length D' ∧ NM D' (turnD l c)) ∧ Tn (fun x => x = b) w w' := by
  obtain ⟨F, T, i⟩ := c
  simp only at hcz hfr hf ⊢
  have hto : T.size ≤ maxLen := by rcases hcz with h | h; rw [h.1]; exact Nat.zero_le _; have := h.1.2.1; unfold maxLen; omega
  have hdel : NM (D.del (sk F)) (if F.size = 0 then l else outD l F) := by
    refine MH.del hm fun n => ?_
    split
    · rename_i h0
      refine ⟨fun h => ⟨h, sk_ne fun e => ?_⟩, fun h => h.1⟩
      have := (hl.word n h).1
      rw [e, h0] at this; omega
    · rw [out_iff]
      exact ⟨fun h => ⟨h.1, sk_ne h.2⟩, fun h => ⟨h.1, fun e => h.2 (by show sk n.s = _; rw [e])⟩⟩
  have hl1 : NmOk (if F.size = 0 then l else outD l F) := by split; exact hl; exact hl.out _
  obtain ⟨m, em⟩ : ∃ m, (if F.size = 0 then l else outD l F) = m := ⟨_, rfl⟩
  rw [em] at hdel hl1
  have hturn : turnD l ⟨F, T, i⟩ = if T.size = 0 then m else outD m T ++ [⟨T, i⟩] := by unfold turnD; simp only [em]
  have hml : m.length ≤ l.length := by
    rw [← em]; split
    · exact Nat.le_refl _
    · exact (out_sub l F).length_le
  have hb := hown.lt
  have HD := hid hdel; have HL := hid hl1; have HT := hid hturn
  have hne : b ≠ w.heap.size := by omega
  by_cases hi : i = 0
  · have hT0 : T.size = 0 := by rcases hcz with h | h; exact h.1; omega
    have HT0 := hid hT0
    subst hi
    clear hm hl hdel hl1 em hturn hcz hT0
    go_enter Try.func60, Try.ntmps60
    go_wp2_with (at_delete; refine wpList_delete_own _ rfl _ _ 58 9 rfl 3 lawS Try.underlying58 (plainElem Try.prog 3) b l.length D rfl (hown.alloc _) _ _ rfl (keyS hfr) ?_; intro w1 hown1 hturn1; have c2 : w1.cell? ⟨w.heap.size, 2, none⟩ = some (.int .i64 0) := (tn_grown hturn1.grown).cell (p := ⟨w.heap.size, 2, none⟩) (by rw [(has_new w _ _).at_ 2]; rfl) (fun e => hne (by injection e with e; exact e.symm)))
    have HO := hid hown1
    have HTn : Hid (Tn (fun x => x = b) w w1) := (tn_alloc w _ (fun x => x = b)).then0 ((tn_grown hturn1.grown).up fun x hx => .inl (by injection hx))
    clear hown1 hturn1 hown
    go_wp2_with fail
    go_end0
    refine ⟨rfl, ⟨D.del (sk F), ?_, ?_⟩, HTn.out⟩
    · rw [HT.out, if_pos HT0.out]
      exact NM.len HD.out HO.out HL.out
    · rw [HT.out, if_pos HT0.out]
      exact HD.out
  · have hT0 : nameD T := by rcases hcz with h | h; exact absurd h.2 hi; exact h.1
    have HT0 := hid hT0
    have q1 : ((i : Int) == 0) = false := by simpa using (by omega : ¬ (i : Int) = 0)
    have hcz := hid hcz
    have hi := hid hi
    clear hm hl hdel hl1 em hturn hT0
    go_enter Try.func60, Try.ntmps60
    go_wp2_with (first | (at_delete; refine wpList_delete_own _ rfl _ _ 58 9 rfl 3 lawS Try.underlying58 (plainElem Try.prog 3) b l.length D rfl (hown.alloc _) _ _ rfl (keyS hfr) ?_; intro w1 hown1 hturn1; have c1 : w1.cell? ⟨w.heap.size, 1, none⟩ = some (.string T) := (tn_grown hturn1.grown).cell (p := ⟨w.heap.size, 1, none⟩) (by rw [(has_new w _ _).at_ 1]; rfl) (fun e => hne (by injection e with e; exact e.symm)); have c2 : w1.cell? ⟨w.heap.size, 2, none⟩ = some (.int .i64 (i : Nat)) := (tn_grown hturn1.grown).cell (p := ⟨w.heap.size, 2, none⟩) (by rw [(has_new w _ _).at_ 2]; rfl) (fun e => hne (by injection e with e; exact e.symm))) | (at_mapUpdate; refine wpList_mapUpdate_own _ rfl _ _ _ 58 rfl 9 3 lawS Try.underlying58 (plainElem Try.prog 3) b l.length (D.del (sk F)) rfl hown1 (by unfold maxLen; omega) _ _ _ rfl rfl (keyS hto) _ [] (plainElem_int Try.underlying3 (WalkArith.wf_i64 (by omega))) ?_; intro w2 hown2 hg2))
    have HO := hid hown1
    have HTn : Hid (Tn (fun x => x = b) w w1) := (tn_alloc w _ (fun x => x = b)).then0 ((tn_grown hturn1.grown).up fun x hx => .inl (by injection hx))
    go_end0
    refine ⟨rfl, ⟨(D.del (sk F)).put (sk T) (.lit (.int .i64 (i : Nat))), ?_, ?_⟩, HTn.out.then0 ((tn_grown hg2).up fun x hx => .inl (by injection hx))⟩
    · rw [HT.out, if_neg (nameD_size HT0.out)]
      refine NM.len (n := l.length + 1) ?_ hown2 ?_
      · exact MH.put HD.out (fun n => sk_key n.s) ⟨T, i⟩ (fun n hn => by
          rcases List.mem_append.1 hn with hn | hn
          · exact .inr ⟨(out_ne hn).1, sk_ne (out_ne hn).2⟩
          · exact .inl (List.mem_singleton.1 hn)) (by simp) (fun n hn hne => List.mem_append_left _ (out_iff.2 ⟨hn, fun e => hne (by show sk n.s = sk T; rw [e])⟩))
      · have := HL.out.turn (c := ⟨ByteArray.empty, T, i⟩) (.inr HT0.out)
        unfold turnD at this
        simp only at this
        rw [if_neg (nameD_size HT0.out), if_pos (show ByteArray.empty.size = 0 from rfl)] at this
        exact this
    · rw [HT.out, if_neg (nameD_size HT0.out)]
      exact MH.put HD.out (fun n => sk_key n.s) ⟨T, i⟩ (fun n hn => by
          rcases List.mem_append.1 hn with hn | hn
          · exact .inr ⟨(out_ne hn).1, sk_ne (out_ne hn).2⟩
          · exact .inl (List.mem_singleton.1 hn)) (by simp) (fun n hn hne => List.mem_append_left _ (out_iff.2 ⟨hn, fun e => hne (by show sk n.s = sk T; rw [e])⟩))
end Go.Proofs.Ytdaelblapgcljaa.Fx
