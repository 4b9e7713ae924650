/- Layer 17: DiskRenames, its walk. -/
import Derived.Test.YtdaelblapgcljaaDlD
import Derived.Test.YtdaelblapgcljaaCrO
namespace Go.Proofs.Ytdaelblapgcljaa.Fx
open Go.ChangeShapes Go.WideShapes Go.ChangeAt Go.RowKit Go.Maps Go.Sort
set_option linter.unusedVariables false

/-- the row of what a function gives -/
def rowB (f : Nat → Nat) (n : Nat) : List Nat := (List.range n).map f
theorem rowB_len (f : Nat → Nat) (n : Nat) : (rowB f n).length = n := by simp [rowB]
theorem rowB_gb (f : Nat → Nat) (n i : Nat) (h : i < n) : gb (rowB f n) i = f i := by
  unfold gb rowB
  rw [List.getD_eq_getElem?_getD, List.getElem?_map, List.getElem?_range h]; rfl
theorem rowB_8 {f : Nat → Nat} (h : ∀ i, f i < 256) (n : Nat) : ∀ b ∈ rowB f n, b < 256 := fun b hb => by
  obtain ⟨i, _, rfl⟩ := List.mem_map.1 hb
  exact h i
theorem rowB_row {w : World} {ao : Option Addr} {n : Nat} {f : Nat → Nat} (h : By w ao n f) : By w ao (rowB f n).length (gb (rowB f n)) := by
  rw [rowB_len]
  exact h.congr fun i hi => (rowB_gb f n i hi).symm
theorem oReadK {B : Nat} {w0 w : World} {p : Nat} {d : Dsk} {n : Nat} (h : On B w0 w p d n []) (hn : n + 1 ≤ 1073741824) {s : ByteArray} (hz : s.size ≤ maxLen) : Calls Try.prog 22 #[.pointer (some ⟨p, 0, none⟩), .string s] w fun e w' => ∃ v, e = .returned (.tuple #[v, .int .i64 (readD d s).2.1]) ∧ OB w' B v (readD d s).2.2.length (gb (readD d s).2.2) ∧ ∃ Y, On B w0 w' p (readD d s).1 (n + 1) Y ∧ ∀ u, Keep Y w' u → OB u B v (readD d s).2.2.length (gb (readD d s).2.2) := by
  refine (oRead h hn hz).mono ?_
  rintro e w' ⟨v, rfl, hO, h1, h2, _⟩
  refine ⟨v, rfl, hO, ?_⟩
  cases hv : v.ownBlock with
  | none => exact ⟨[], h1, fun u hu => hO.keep hu (fun g hg => by rw [hv] at hg; cases hg)⟩
  | some g => exact ⟨[g], (h2 g hv).1, fun u hu => hO.keep hu (fun g' hg => by rw [hv] at hg; cases hg; simp)⟩
set_option maxRecDepth 100000 in
set_option maxHeartbeats 8000000 in
theorem drenames_walk {ca cb : Nat} {a b : List Nat} {oa ob : Option Addr} {kept : Int} {w : World} (hA : By w oa a.length (gb a)) (hB : By w ob b.length (gb b)) (a8 : ∀ x ∈ a, x < 256) (b8 : ∀ x ∈ b, x < 256) (hk1 : -9223372036854775808 ≤ kept) (hk2 : kept ≤ 9223372036854775807) (ln1 : a.length ≤ 140737488351232) (ln2 : b.length ≤ 140737488351232) :
    Calls Try.prog 7 #[.slice oa a.length ca, .slice ob b.length cb, .int .i64 kept] w fun e w' => e = .returned (.bool true) ∧ Below w.heap.size w w' := by
  have HA := hid hA; have HB := hid hB; have A8 := hid a8; have B8 := hid b8; have HK := hid (And.intro hk1 hk2)
  have LA : Hid (0 < a.length → ∀ x off, oa = some ⟨x, off, none⟩ → x < w.heap.size) := fun h0 x off e => by
    obtain ⟨y, o, e2, hy⟩ := hA.below h0
    rw [e] at e2; cases e2; exact hy
  have LB : Hid (0 < b.length → ∀ x off, ob = some ⟨x, off, none⟩ → x < w.heap.size) := fun h0 x off e => by
    obtain ⟨y, o, e2, hy⟩ := hB.below h0
    rw [e] at e2; cases e2; exact hy
  clear hA hB a8 b8 hk1 hk2
  go_enter Try.func7, Try.ntmps7
  go_wp2_with fail
  refine dfit_c.mono ?_
  rintro e w1 ⟨rfl, hb1⟩
  have HB1 := hid hb1
  clear hb1
  by_cases hl : 500 < a.length + b.length
  · have q1 : decide ((500 : Int) < (a.length : Int) + (b.length : Int)) = true := decide_eq_true (by omega)
    go_wp2_with fail
    go_ret
    exact ⟨rfl, HB1.out⟩
  have q1 : decide ((500 : Int) < (a.length : Int) + (b.length : Int)) = false := decide_eq_false (by omega)
  have HL : Hid (a.length + b.length ≤ 500) := by unfold Hid; omega
  clear hl
  go_wp2_with fail
  refine (oNew (room := 1000) (by omega) (by omega) HB1.out HB1.out.size).mono ?_
  rintro e w2 ⟨p, rfl, h2, _, _⟩
  have h2 := hid h2
  clear HB1
  go_wp2_with fail
  refine (oCreate h2.out (s := sA) (by omega) (by decide)).mono ?_
  rintro e w3 ⟨rfl, h3, _⟩
  rw [rn1] at h3
  have h3 := hid h3
  clear h2
  go_wp2_with fail
  refine (oAppend h3.out (s := sA) (by decide) (b := a) (cb := ca) (by have := HL.out; omega) (HA.out.bel (by have := h3.out.below; exact this)) (fun h0 x off e => .inr (LA.out h0 x off e)) A8.out).mono ?_
  rintro e w4 ⟨rfl, h4, _⟩
  rw [rn2 a (by have := HL.out; omega)] at h4
  have h4 := hid h4
  clear h3
  go_wp2_with fail
  refine (oCreate h4.out (s := sB) (by have := HL.out; omega) (by decide)).mono ?_
  rintro e w5 ⟨rfl, h5, _⟩
  rw [rn3] at h5
  have h5 := hid h5
  clear h4
  go_wp2_with fail
  refine (oAppend h5.out (s := sB) (by decide) (b := b) (cb := cb) (by have := HL.out; omega) (HB.out.bel (by have := h5.out.below; exact this)) (fun h0 x off e => .inr (LB.out h0 x off e)) B8.out).mono ?_
  rintro e w6 ⟨rfl, h6, _⟩
  rw [rn4 a b HL.out] at h6
  have h6 := hid h6
  clear h5
  go_wp2_with fail
  refine (oSync h6.out (s := sA) (by have := HL.out; omega) (by decide)).mono ?_
  rintro e w7 ⟨rfl, h7, _⟩
  rw [rn5] at h7
  have h7 := hid h7
  clear h6
  go_wp2_with fail
  refine (oSync h7.out (s := sB) (by have := HL.out; omega) (by decide)).mono ?_
  rintro e w8 ⟨rfl, h8, _⟩
  rw [rn6] at h8
  have h8 := hid h8
  clear h7
  go_wp2_with fail
  refine (oDirSync h8.out (by have := HL.out; omega)).mono ?_
  rintro e w9 ⟨rfl, h9, _⟩
  rw [rn7] at h9 ⊢
  have h9 := hid h9
  clear h8
  go_wp2_with fail
  refine (oRename h9.out (s := sA) (t := sB) (by have := HL.out; omega) (by decide) (by decide)).mono ?_
  rintro e w10 ⟨rfl, h10, _⟩
  rw [rn8] at h10 ⊢
  have h10 := hid h10
  clear h9
  go_wp2_with fail
  refine (oSize h10.out (by have := HL.out; omega)).mono ?_
  rintro e w11 ⟨rfl, h11, _⟩
  rw [size_rn]
  have h11 := hid h11
  clear h10
  have q2 : ((a.length : Int) == (a.length : Int)) = true := by simp
  go_wp2_with fail
  refine (oRename h11.out (s := sA) (t := sC) (by have := HL.out; omega) (by decide) (by decide)).mono ?_
  rintro e w12 ⟨rfl, h12, _⟩
  rw [rn9] at h12 ⊢
  have h12 := hid h12
  clear h11
  go_wp2_with fail
  refine (oRead h12.out (s := sB) (by have := HL.out; omega) (by decide)).mono ?_
  rintro e w13 ⟨v, rfl, hO, h13, _, _⟩
  rw [rn10] at hO h13 ⊢
  have hO : OB w13 w.heap.size v a.length (gb a) := hO
  obtain ⟨ao, c, rfl, _⟩ := hO.shape
  have q3 := conv_by (c := c) hO.by_
  have q4 := conv_by (c := ca) (HA.out.bel h13.below)
  have q5 := str_yes (a := strB (gb a) a.length) rfl
  have h13 := hid h13
  clear h12 hO
  go_wp2_with fail
  refine (oCrash h13.out (by have := HL.out; omega) (x := kept) HK.out (kl := []) (ak := none) (ck := 0) (inK_nil _ _) (fun h => absurd h (by simp)) (Nat.zero_le _) (by omega) (fun x hx => by cases hx)).mono ?_
  rintro e w14 ⟨rfl, h14, _⟩
  clear h13 q3 q4
  by_cases hkp : 0 < kept
  · rw [rnC1 a b hkp] at h14
    have h14 := hid h14
    have q6 : decide (0 < kept) = true := decide_eq_true hkp
    have hkp := hid hkp
    go_wp2_with fail
    refine (oReadK h14.out (s := sB) (by have := HL.out; omega) (by decide)).mono ?_
    rintro e w15 ⟨v, rfl, hO, Y, h15, hg⟩
    rw [rr1] at hO h15 hg ⊢
    have hO : OB w15 w.heap.size v a.length (gb a) := hO
    have hg : ∀ u, Keep Y w15 u → OB u w.heap.size v a.length (gb a) := hg
    obtain ⟨ao, c, rfl, _⟩ := hO.shape
    have HG := hid hg
    have h15 := hid h15
    clear h14 hO hg
    go_wp2_with fail
    refine (oRead h15.out (s := sA) (by have := HL.out; omega) (by decide)).mono ?_
    rintro e w16 ⟨v, rfl, hO, h16, _, hK⟩
    rw [rr2] at hO h16 ⊢
    have hO : OB w16 w.heap.size v 0 (gb []) := hO
    obtain ⟨ao2, c2, rfl, _⟩ := hO.shape
    have q7 := conv_by (c := c) (HG.out _ hK).by_
    have q8 := conv_by (c := ca) (HA.out.bel h16.below)
    have h16 := hid h16
    clear h15 hO HG hK
    go_wp2_with fail
    go_ret
    exact ⟨rfl, h16.out.below⟩
  · rw [rnC0 a b hkp] at h14
    have h14 := hid h14
    have q6 : decide (0 < kept) = false := decide_eq_false hkp
    have hkp := hid hkp
    go_wp2_with fail
    refine (oReadK h14.out (s := sB) (by have := HL.out; omega) (by decide)).mono ?_
    rintro e w15 ⟨v, rfl, hO, Y, h15, hg⟩
    rw [rr3] at hO h15 hg ⊢
    have hO : OB w15 w.heap.size v b.length (gb b) := hO
    have hg : ∀ u, Keep Y w15 u → OB u w.heap.size v b.length (gb b) := hg
    obtain ⟨ao, c, rfl, _⟩ := hO.shape
    have HG := hid hg
    have h15 := hid h15
    clear h14 hO hg
    go_wp2_with fail
    refine (oRead h15.out (s := sA) (by have := HL.out; omega) (by decide)).mono ?_
    rintro e w16 ⟨v, rfl, hO, h16, _, hK⟩
    rw [rr4] at hO h16 ⊢
    have hO : OB w16 w.heap.size v a.length (gb a) := hO
    obtain ⟨ao2, c2, rfl, _⟩ := hO.shape
    have q7 := conv_by (c := c) (HG.out _ hK).by_
    have q8 := conv_by (c := cb) (HB.out.bel h16.below)
    have q9 := conv_by (c := c2) hO.by_
    have q10 := conv_by (c := ca) (HA.out.bel h16.below)
    have q11 := str_yes (a := strB (gb b) b.length) rfl
    have h16 := hid h16
    clear h15 hO HG hK
    go_wp2_with fail
    go_ret
    exact ⟨rfl, h16.out.below⟩
/-- as the seat asks it -/
theorem drenames_i {n m ca cb : Nat} {f g : Nat → Nat} {oa ob : Option Addr} {kept : Int} {w : World} (hA : ByIn w oa n ca f) (hB : ByIn w ob m cb g) (hk : (Lit.int .i64 kept).wf = true) :
    Calls Try.prog 7 #[.slice oa n ca, .slice ob m cb, .int .i64 kept] w fun e w' => e = .returned (.bool true) ∧ Below w.heap.size w w' := by
  have h := drenames_walk (ca := ca) (cb := cb) (rowB_row hA.1) (rowB_row hB.1) (rowB_8 hA.2.1 n) (rowB_8 hB.2.1 m) (bounds_i64 hk).1 (bounds_i64 hk).2 (by rw [rowB_len]; exact hA.2.2.2) (by rw [rowB_len]; exact hB.2.2.2)
  rw [rowB_len, rowB_len] at h
  exact h
end Go.Proofs.Ytdaelblapgcljaa.Fx
