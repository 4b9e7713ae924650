/- Package disk: what a range over a map has gone through; Sync, Read, Size. -/
import Derived.Test.YtdaelblapgcljaaDkE
namespace Go.Proofs.Ytdaelblapgcljaa.Fx
open Go.ChangeShapes Go.WideShapes Go.ChangeAt Go.RowKit Go.Maps
set_option linter.unusedVariables false

/-- what has come, of the entries of a map -/
def doneL {α : Type} (key : α → Lit) (left : Lit → Bool) (l : List α) : List α := l.filter fun n => !left (key n)
section
variable {α : Type} {key : α → Lit} {left : Lit → Bool} {l : List α}
theorem done_start (h : ∀ n ∈ l, left (key n) = true) : doneL key left l = [] := List.filter_eq_nil_iff.2 fun n hn => by simp [h n hn]
theorem done_end (h : ∀ kl, left kl = false) : doneL key left l = l := List.filter_eq_self.2 fun n hn => by simp [h]
theorem done_step (hk : ∀ n, WideAt.IsKeyLit (key n)) {n : α} : ∀ {l : List α}, (l.map key).Nodup → n ∈ l → left (key n) = true → (doneL key (fun z => left z && !z.sameKey (key n)) l).Perm (n :: doneL key left l)
  | [], _, h, _ => by cases h
  | m :: t, hd, hm, hl => by
    rw [List.map_cons, List.nodup_cons] at hd
    obtain ⟨h1, h2⟩ := hd
    unfold doneL
    rw [List.filter_cons, List.filter_cons]
    show (if (!(left (key m) && !(key m).sameKey (key n))) = true then m :: t.filter (fun x => !(left (key x) && !(key x).sameKey (key n))) else t.filter (fun x => !(left (key x) && !(key x).sameKey (key n)))).Perm (n :: if (!left (key m)) = true then m :: t.filter (fun x => !left (key x)) else t.filter (fun x => !left (key x)))
    by_cases e : key m = key n
    · have hnt : n ∉ t := fun h => h1 (List.mem_map.2 ⟨n, h, e.symm⟩)
      have : m = n := by
        rcases List.mem_cons.1 hm with h | h
        · exact h.symm
        · exact absurd h hnt
      subst this
      rw [WideAt.sameKey_self (hk m), hl]
      simp only [Bool.not_true, Bool.and_false, Bool.not_false, if_true, Bool.false_eq_true, if_false]
      refine List.Perm.cons _ (List.Perm.of_eq ?_)
      refine List.filter_congr fun x hx => ?_
      have hne : key x ≠ key m := fun e => h1 (List.mem_map.2 ⟨x, hx, e⟩)
      rw [sameKey_ne hne]; simp
    · have hn : n ∈ t := by
        rcases List.mem_cons.1 hm with h | h
        · exact absurd (by rw [h]) e
        · exact h
      have ih := done_step hk h2 hn hl
      change (t.filter (fun x => !(left (key x) && !(key x).sameKey (key n)))).Perm (n :: t.filter (fun x => !left (key x))) at ih
      have e2 : (left (key m) && !(key m).sameKey (key n)) = left (key m) := by rw [sameKey_ne e]; simp
      rw [e2]
      cases left (key m) with
      | true => simpa using ih
      | false => exact (List.Perm.cons m ih).trans (List.Perm.swap n m _)
end
theorem perm_sum {l m : List Nat} (h : l.Perm m) : l.sum = m.sum := by
  induction h with
  | nil => rfl
  | cons x _ ih => simp only [List.sum_cons, ih]
  | swap x y l => simp only [List.sum_cons]; omega
  | trans _ _ h1 h2 => exact h1.trans h2
theorem names_keys {l : List Nam} (h : (l.map (·.s)).Pairwise (· ≠ ·)) : (l.map keN).Nodup := by
  unfold List.Nodup
  rw [List.pairwise_map] at h ⊢
  exact h.imp fun hne => sk_ne hne
theorem files_keys {l : List Fil} (h : (l.map (·.id)).Pairwise (· < ·)) : (l.map keF).Nodup := by
  unfold List.Nodup
  rw [List.pairwise_map] at h ⊢
  exact h.imp fun hne => kk_ne (by omega)
theorem keyS_inv {key : Value} {kl : Lit} (h : keyOf Try.prog 9 key = some kl) : ∃ s : ByteArray, key = .string s ∧ kl = sk s ∧ s.size ≤ maxLen := by
  have u := Try.underlying9
  cases key <;> simp [keyOf, u, mapKey] at h
  rename_i s
  exact ⟨s, rfl, h.2.symm, h.1⟩
/-- an entry of names has come -/
theorem nm_come {D : DataW Unit} {l : List Nam} (hm : NM D l) {s : ByteArray} {v : Value} {y : DataW Unit × List MemPlace} (hv : plainElem Try.prog 3 v = some y) (hat : ∀ zd, D.atKey (sk s) zd = y.1) : ∃ n ∈ l, n.s = s ∧ v = .int .i64 (n.f : Nat) := by
  obtain ⟨n, hn, e⟩ := (hm.has _).1 (has_true_of_atKey hat)
  have e : s = n.s := sk_inj e
  subst e
  obtain ⟨a, rfl, rfl, _⟩ := plainElem_int_inv Try.underlying3 hv
  have h1 := (hm.at_ n hn .nil).symm.trans (hat .nil)
  injection h1 with h1
  injection h1 with _ h1
  exact ⟨n, hn, rfl, by rw [← h1]⟩
/-- an entry of files has come -/
theorem fm_come {D : DataW Unit} {bl : Nat → Nat} {l : List Fil} (hm : FlM bl D l) {i : Int} {v : Value} {y : DataW Unit × List MemPlace} (hv : ptrE v = some y) (hat : ∀ zd, D.atKey (kk i) zd = y.1) : ∃ f ∈ l, i = (f.id : Nat) ∧ v = .pointer (some ⟨bl f.id, 0, none⟩) := by
  obtain ⟨f, hf, e⟩ := (hm.has _).1 (has_true_of_atKey hat)
  have e : i = (f.id : Nat) := by injection e
  subst e
  have h1 := (hm.at_ f hf .nil).symm.trans (hat .nil)
  rcases ptrE_inv hv with ⟨b, rfl, e2⟩ | ⟨rfl, e2⟩
  · rw [e2] at h1
    injection h1 with h1
    injection h1 with _ h1
    have : bl f.id = b := by omega
    exact ⟨f, hf, rfl, by rw [this]⟩
  · rw [e2] at h1; cases h1
/-- how long a name's file is -/
def lenN (d : Dsk) (n : Nam) : Nat := ((fileD d.files n.f).map fun f => f.b.length).getD 0
theorem sizeD_eq (d : Dsk) : sizeD d = (d.names.map (lenN d)).sum := rfl
theorem DOl.filed {d : Dsk} (h : DOl d) {n : Nam} (hn : n ∈ d.names) : ∃ f ∈ d.files, fileD d.files n.f = some f ∧ f.id = n.f := by
  obtain ⟨f, hf, e⟩ := h.ok.names.there n hn
  exact ⟨f, hf, by rw [← e]; exact file_of h.ok.ids hf, e⟩
theorem sum_sub {α : Type} (F : α → Nat) (p : α → Bool) : ∀ l : List α, ((l.filter p).map F).sum ≤ (l.map F).sum
  | [] => Nat.le_refl _
  | x :: l => by
    have ih := sum_sub F p l
    rw [List.filter_cons]
    split <;> simp only [List.map_cons, List.sum_cons] <;> omega
/-- a file in memory, in letters -/
theorem Rest.file {w : World} {k : Dk} {d : Dsk} (h : Rest w k d) {f : Fil} (hf : f ∈ d.files) : ∃ ao c, k.ro f.id = .slice ao f.b.length c ∧ Has w (k.bl f.id) 86 #[.slice ao f.b.length c, .int .i64 (f.sure : Nat)] ∧ OB w 0 (.slice ao f.b.length c) f.b.length (gb f.b) ∧ f.b.length ≤ c ∧ c ≤ 9223372036854775807 ∧ (ao = none → f.b.length = 0) := by
  obtain ⟨h1, h2⟩ := h.fl f hf
  obtain ⟨ao, c, e, hc, hm, hn⟩ := h2.shape
  rw [e] at h1 h2
  refine ⟨ao, c, e, h1, h2, hc, by unfold maxLen at hm; omega, fun e0 => ?_⟩
  rcases Nat.eq_zero_or_pos f.b.length with h0 | h0
  · exact h0
  · obtain ⟨g, eg, _⟩ := hn h0
    rw [e0] at eg; cases eg
set_option maxRecDepth 100000 in
set_option maxHeartbeats 4000000 in
theorem dsize_c {w : World} {k : Dk} {d : Dsk} (h : DAt w k d) (ho : DOl d) (hs : SmD d) : Calls Try.prog 21 #[.pointer (some ⟨k.p, 0, none⟩)] w fun e w' => e = .returned (.int .i64 (sizeD d : Nat)) ∧ Below w.heap.size w w' := by
  have H := hid (dnone_c h)
  have HR := hid h.rest
  have HT := hid h.top
  have hlen : sizeD d ≤ 1073741824 := Nat.le_trans ho.ok.size hs.len
  have hnext := hs.next
  obtain ⟨-, c1, -, -, c4, -⟩ := h.cells
  obtain ⟨D, hown, hmap⟩ := h.rest.mn
  have HM := hid hmap
  have HO := hid ho
  have HL := hid hlen
  have HX := hid hnext
  obtain ⟨p, ep⟩ : ∃ p, k.p = p := ⟨_, rfl⟩
  obtain ⟨bn, en⟩ : ∃ p, k.bn = p := ⟨_, rfl⟩
  obtain ⟨bf, ef⟩ : ∃ p, k.bf = p := ⟨_, rfl⟩
  rw [ep, en] at c1
  rw [ep, ef] at c4
  rw [en] at hown
  rw [ep] at H ⊢
  have EP := hid (And.intro ep (And.intro en ef))
  have hbn : bn < w.heap.size := hown.lt
  obtain ⟨m, em⟩ : ∃ m, d.names.length = m := ⟨_, rfl⟩
  rw [em] at hown
  clear h ho hs hlen hnext hmap ep en ef em
  go_enter Try.func21, Try.ntmps21
  go_wp2_with fail
  refine H.out.mono ?_
  rintro e w' ⟨rfl, rfl⟩
  go_wp2_with (at_range; refine wpList_range_own _ rfl _ 58 rfl 9 3 lawS Try.underlying58 (plainElem Try.prog 3) bn m D rfl hown ?_; intro w0 hrg0 hg0 hs0)
  go_frame
  have HB0 : Hid (Below w.heap.size w w0) := (Below.refl _ _).grown hg0 (Nat.le_refl _) (fun j hj => by cases hj)
  obtain ⟨gr, egr⟩ : ∃ g, w.heap.size = g := ⟨_, rfl⟩
  rw [egr] at hrg0 HB0 hbn ⊢
  have EG := hid egr
  clear hg0 hs0 egr
  go_loopw [3] (fun s wr => ∃ (left : Lit → Bool) (cnt : Nat) (S : Nat), wr.ranges Try.prog 9 (plainElem Try.prog 3) bn gr m D left cnt ∧ s = .int .i64 (S : Nat) ∧ Hid (S = ((doneL keN left d.names).map (lenN d)).sum ∧ Below gr w wr)) (fun _ wr => wr.rangeLeft bn gr)
  case atStart => exact ⟨_, _, 0, hrg0, by first | rfl | trivial, by rw [done_start fun n hn => HM.out.yes hn]; rfl, HB0.out⟩
  case round =>
    obtain ⟨left, cnt, S, hrg, rfl, HB⟩ := hrel
    have hS : S ≤ 1073741824 := by rw [HB.out.1]; exact Nat.le_trans (sum_sub _ _ _) HL.out
    go_wp2_with (at_next; refine wpList_next_ranges _ rfl _ rfl 9 lawS (plainElem Try.prog 3) Value.string (Value.int .i64) (fun key kl hk => by obtain ⟨s, e, _⟩ := keyS_inv hk; exact ⟨s, e⟩) (fun v y hv => by obtain ⟨c, rfl, _⟩ := plainElem_int_inv Try.underlying3 hv; exact ⟨c, rfl⟩) bn gr m D left cnt rfl hrg ?_ ?_)
    · intro hc0 hl0
      have HE : Hid (S = sizeD d) := by unfold Hid; rw [HB.out.1, done_end hl0, sizeD_eq]
      go_wp2_with fail
      go_ret
      exact ⟨cret_i (by rw [HE.out]), by rw [EG.out]; exact HB.out.2⟩
    · intro x c kl yd yp w8 cnt8 hkey hlk hv hat hrg8 hlt8 hg8 hs8 hen0
      obtain ⟨s', es, ekl, _⟩ := keyS_inv hkey
      cases es
      subst ekl
      obtain ⟨n, hn, en, ec⟩ := nm_come HM.out hv hat
      obtain ⟨f, hf, e1, e2⟩ := HO.out.filed hn
      have ec : c = (n.f : Nat) := by injection ec
      subst ec
      have hb8 : Below gr w w8 := HB.out.2.grown hg8 (by rw [← EG.out]; exact HB.out.2.size) (fun j hj => by cases hj; exact Nat.le_refl _)
      have hb8' : Below w.heap.size w w8 := by rw [EG.out]; exact hb8
      have hr8 : Rest w8 k d := HR.out.tn (Below.tn (X := NilB) hb8') (fun _ hh => hh.elim)
      have hidf : n.f ≤ 9223372036854775807 := by have h1 := HO.out.ok.next f hf; have h2 := HX.out; omega
      have l2 := hr8.getf (i := n.f) hidf
      have hp : ptrF k d n.f = .pointer (some ⟨k.bl f.id, 0, none⟩) := by unfold ptrF; rw [e1]
      rw [hp, EP.out.2.2] at l2
      obtain ⟨ao, cc, _, hH, _, _, _, _⟩ := hr8.file hf
      have z0 : w8.cell? ⟨k.bl f.id, 0, none⟩ = some (.slice ao f.b.length cc) := hH.at_ 0
      have y1 : w8.cell? ⟨p, 1, none⟩ = some (.map (some bn)) := Below.reads hb8' c1
      have y4 : w8.cell? ⟨p, 4, none⟩ = some (.map (some bf)) := Below.reads hb8' c4
      obtain ⟨g, eg⟩ : ∃ g, k.bl f.id = g := ⟨_, rfl⟩
      obtain ⟨L, eL⟩ : ∃ L, f.b.length = L := ⟨_, rfl⟩
      rw [eg] at l2 z0
      rw [eL] at z0
      have hL : lenN d n = L := by unfold lenN; rw [e1, ← eL]; rfl
      have HN : Hid (S + L = ((doneL keN (fun z => left z && !z.sameKey (sk n.s)) d.names).map (lenN d)).sum) := by
        have hpm := done_step (key := keN) (left := left) (fun n => sk_key n.s) (names_keys HO.out.ok.names.names) hn (by rw [← en] at hlk; exact hlk)
        have := perm_sum (hpm.map (lenN d))
        show S + L = ((doneL keN (fun z => left z && !z.sameKey (keN n)) d.names).map (lenN d)).sum
        rw [this, List.map_cons, List.sum_cons, hL, ← HB.out.1]
        omega
      have hSL : S + L ≤ 1073741824 := by rw [HN.out]; exact Nat.le_trans (sum_sub _ _ _) HL.out
      have HB8 := hid hb8
      have HS := hid en
      clear hr8 hp hH e1 e2 eg eL hL hb8 hb8' hf hn en hs8 hg8 hidf
      go_wp2_with fail
      go_roundw
      case rel => exact ⟨_, cnt8, S + L, hrg8, by go_num, by rw [HN.out, HS.out], HB8.out⟩
      case measure => rw [hrg8.left_eq, hrg.left_eq]; exact hlt8
end Go.Proofs.Ytdaelblapgcljaa.Fx
