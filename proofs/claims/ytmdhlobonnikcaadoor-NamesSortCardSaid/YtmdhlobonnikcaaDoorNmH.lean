/- Package names: rows of numbers of one's own, appended to and sorted; the numbers of names. -/
import Derived.Test.YtmdhlobonnikcaaDoorNmE
import Derived.Test.YtmdhlobonnikcaaDoorDkM
import Derived.Test.YtmdhlobonnikcaaDoorLayI
import Derived.Sort.OwnSortedInts
import Derived.Maps.AppendAt
namespace Go.Proofs.YtmdhlobonnikcaaDoor.Fx
open Go.ChangeShapes Go.WideShapes Go.ChangeAt Go.RowKit Go.Maps Go.Sort Go.Shelf
set_option linter.unusedVariables false

open Classical in
/-- the number of a name of this kind -/
noncomputable def isN (c : Nat) (s : ByteArray) : Option Int := if h : ∃ n, NmOk c n ∧ s = nmB c n then some (Classical.choose h : Nat) else none
theorem isN_yes {c n : Nat} (h : NmOk c n) : isN c (nmB c n) = some (n : Int) := by
  have h0 : ∃ m, NmOk c m ∧ nmB c n = nmB c m := ⟨n, h, rfl⟩
  unfold isN
  rw [dif_pos h0]
  have h1 := Classical.choose_spec h0
  rw [← (nm_inj h.c h1.1.c h.n h1.1.n h1.2).2]
theorem isN_no {c : Nat} {s : ByteArray} (h : ∀ n, NmOk c n → s ≠ nmB c n) : isN c s = none := by
  unfold isN
  rw [dif_neg fun ⟨n, h1, h2⟩ => h n h1 h2]
theorem isN_other {c d n : Nat} (h : NmOk d n) (hne : c ≠ d) : isN c (nmB d n) = none :=
  isN_no fun m hm e => hne (nm_inj h.c hm.c h.n hm.n e).1.symm
theorem isN_none {c : Nat} {s : ByteArray} (h : ∀ d m, NmOk d m → s ≠ nmB d m) : isN c s = none := isN_no fun n hn => h c n hn
/-- the numbers of the names of this kind -/
noncomputable def numsN (c : Nat) (L : List ByteArray) : List Int := L.filterMap (isN c)
theorem numsN_app (c : Nat) (L M : List ByteArray) : numsN c (L ++ M) = numsN c L ++ numsN c M := List.filterMap_append
theorem numsN_one (c : Nat) (s : ByteArray) : numsN c [s] = (isN c s).toList := by
  unfold numsN
  cases h : isN c s <;> simp [h]
theorem numsN_len (c : Nat) (L : List ByteArray) : (numsN c L).length ≤ L.length := List.length_filterMap_le _ _
theorem numsN_next {c : Nat} {L : List ByteArray} {k : Nat} {s : ByteArray} (h : L[k]? = some s) : numsN c (L.take (k + 1)) = numsN c (L.take k) ++ (isN c s).toList := by
  rw [List.take_add_one, h, numsN_app, ← numsN_one]
  rfl
def sortZ (l : List Int) : List Int := l.mergeSort fun x y => decide (x ≤ y)
theorem sortZ_len (l : List Int) : (sortZ l).length = l.length := List.length_mergeSort ..
theorem sortZ_perm (l : List Int) : (sortZ l).Perm l := List.mergeSort_perm ..
theorem sortZ_up (l : List Int) : (sortZ l).Pairwise (· ≤ ·) := by
  have := List.pairwise_mergeSort (le := fun (x y : Int) => decide (x ≤ y)) (fun a b c h1 h2 => by simp at *; omega) (fun a b => by simp; omega) l
  exact this.imp fun hh => by simpa using hh
/-! ### rows -/
def ApartV (u v : Value) : Prop := ∀ g, u.ownBlock = some g → v.ownBlock = some g → False
theorem ApartV.symm {u v : Value} (h : ApartV u v) : ApartV v u := fun g h1 h2 => h g h2 h1
theorem own_ge {w : World} {base n : Nat} {t : TypeId} {size g : Nat} {x : Value} {xs : List Value} (h : w.ownsRow base t size x n xs) (e : x.ownBlock = some g) : base ≤ g := by
  rcases h.2 with ⟨rfl, _⟩ | ⟨g', cap, cur, rfl, hb, _⟩
  · cases e
  · cases e; exact hb
theorem infoZ : (Tryd.prog.info? 3).map (fun i => (i.zero, i.size, i.bytes)) = some (some (.int .i64 0), 1, 8) := by kernel_rfl
abbrev OZ (w : World) (base : Nat) (v : Value) (ss : List Int) : Prop := w.ownsRow base 3 1 v ss.length (ss.map (Value.int .i64))
theorem rows_app {W : World} {base : Nat} {va vb : Value} {xs ys : List Int} {x : Int} (ty : TypeId) (ha : OZ W base va xs) (hb : OZ W base vb ys) (hab : ApartV va vb) (hn : xs.length ≤ 1048576) (hbase : base ≤ W.heap.size) :
    ∃ v' w', (Builtin.append_ #[30, 30] ty #[va, .slice (some ⟨W.heap.size, 0, none⟩) 1 1]).run Tryd.prog (W.alloc (.cells #[.int .i64 x] 3)) = .ok v' w' ∧ OZ w' base v' (xs ++ [x]) ∧ OZ w' base vb ys ∧ ApartV v' vb ∧ Below base W w' := by
  obtain ⟨i, hi, hz0, hz1, hz2⟩ := info_parts infoZ
  have ha1 : (W.alloc (.cells #[.int .i64 x] 3)).ownsRow base 3 1 va xs.length (xs.map (Value.int .i64)) := own_tn ha (tn_alloc W _ NilB) (fun _ _ h => h)
  have hb1 : (W.alloc (.cells #[.int .i64 x] 3)).ownsRow base 3 1 vb ys.length (ys.map (Value.int .i64)) := own_tn hb (tn_alloc W _ NilB) (fun _ _ h => h)
  have hA : (W.alloc (.cells #[.int .i64 x] 3)).heap.size = W.heap.size + 1 := by simp
  obtain ⟨v', w', hr, h2, h3, _, h5⟩ := run_append_own_at (P := Tryd.prog) (W.alloc (.cells #[.int .i64 x] 3)) base 30 ty 3 i (.int .i64 0) 1 8 Tryd.underlying30 hi hz0 hz1 hz2 rfl (by omega) va xs.length (xs.map (Value.int .i64)) ha1 ⟨W.heap.size, 0, none⟩ 1 1 [.int .i64 x] rfl (fun j u hj => by
    rw [Addr.add_lit, Nat.zero_add, (has_new W _ _).at_ j]
    simpa using hj) (fun u hu => by rw [List.mem_singleton.1 hu]; rfl) (by unfold maxLen; omega) (by omega) (by omega)
  refine ⟨v', w', hr, ?_, own_tn hb1 (tn_grown h3) (fun g hg e => hab g e.symm hg), fun g h6 h7 => ?_, ?_⟩
  · show w'.ownsRow base _ 1 v' (xs ++ [x]).length ((xs ++ [x]).map (Value.int .i64))
    rw [List.map_append, List.length_append]
    exact h2
  · rcases h5 with h5 | h5
    · exact hab g (h5 ▸ h6) h7
    · rw [h5] at h6
      have h8 : (W.alloc (.cells #[.int .i64 x] 3)).heap.size = g := by injection h6
      have h9 := own_lt hb h7
      omega
  · exact Tn.below_ ((below_new W _).mono hbase) (tn_grown h3) (by omega) fun b hb => own_ge ha hb.symm
set_option maxHeartbeats 1000000 in
theorem sort_own {W : World} {base : Nat} {v : Value} {ss : List Int} (h : OZ W base v ss) (hl : ss.length ≤ 1048576) :
    Calls Tryd.prog 16 #[v] W fun e w' => e = .returned (.tuple #[]) ∧ OZ w' base v (sortZ ss) ∧ Tn (fun b => v.ownBlock = some b) W w' := by
  rcases h.2 with ⟨rfl, h0⟩ | ⟨g, cap, cur, rfl, hb, hh, h1, h2, h3, h4⟩
  · have hv0 : ss = [] := List.eq_nil_of_length_eq_zero h0
    subst hv0
    refine (AnyM.slices_Sort_int_none laySI none 0 W).mono ?_
    rintro e w' ⟨rfl, rfl⟩
    exact ⟨rfl, by rw [show sortZ [] = [] by simp [sortZ]]; exact World.ownsRow_nil _ _ _ _, Tn.rfl_ _ _⟩
  · have hH : Holds (Value.int .i64) W g 0 ss.toArray := holds_of_blockI hh (by simpa using h4)
    refine (AnyM.slices_Sort_int laySI g 0 cap ss W hH (Array.getElem?_eq_some_iff.1 hh).1 (by omega)).mono ?_
    rintro e w' ⟨rfl, n, os, rfl⟩
    refine ⟨rfl, ?_, (tn_grown (grownBy_sortedI _)).up fun b hb => .inl ?_⟩
    · show World.ownsRow _ _ _ 1 _ (sortZ ss).length ((sortZ ss).map (Value.int .i64))
      rw [sortZ_len]
      exact ownsRow_sortedI (List.length_mergeSort ..) hb hh h1 h2 h3
    · injection hb with hb
      rw [hb]; rfl
end Go.Proofs.YtmdhlobonnikcaaDoor.Fx
