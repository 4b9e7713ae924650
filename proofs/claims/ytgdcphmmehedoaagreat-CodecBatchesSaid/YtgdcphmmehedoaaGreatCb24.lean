/- CoQ CoR -/
import Derived.Test.YtgdcphmmehedoaaGreatCb23
set_option maxRecDepth 100000
set_option maxHeartbeats 64000000
/- Package codec: a world is written. -/
namespace Go.Proofs.YtgdcphmmehedoaaGreat.Fx
open Go.ChangeShapes Go.WideShapes Go.ChangeAt Go.RowKit
set_option linter.unusedVariables false
theorem bdB_len (b : Bd) : (bdB b).length ≤ 16 * b.n + 100 := by
 have h1 : (shB b.k b.r b.n b.f).length ≤ 16 * b.n + 9 := by
  unfold shB
  split
  ·simp only [List.length_append, nb_len]; omega
  ·split
   ·simp only [List.length_append, nb_len, vB_len]; omega
   ·simp only [List.length_append, nb_len, List.length_nil]; omega
 unfold bdB
 simp only [List.length_append, nb_len]; omega
theorem bdBs_len : ∀ (L : List Bd), (∀ o ∈ L, o.n ≤ 255) → (L.flatMap bdB).length ≤ 4180 * L.length
 | [], _ => Nat.le_refl _
 | o :: L, h => by
  have h1 := bdBs_len L (fun x hx => h x (List.mem_cons_of_mem _ hx))
  have h2 := bdB_len o
  have h3 := h o (List.mem_cons_self ..)
  rw [List.flatMap_cons, List.length_append, List.length_cons]
  omega
theorem cwbodies_c {pb n c m : Nat} {v : Value} {l : List Nat} {L : List Bd} {ao : Option Addr} {w : World} (hW : Wv w pb v l) (hL : ∀ u, Made pb w u → LsT encB 11 u ao L) (hIs : ∀ b ∈ L, BdI b) (hS : ∀ b ∈ L, b.n ≤ 255) (hLow : ∀ b ∈ L, 0 < b.n → ∀ o off s, b.ao = some ⟨o, off, s⟩ → o < pb) (hSl : ∀ u, Made pb w u → ∀ b ∈ L, Sl u b.ao b.n b.f) (hn : L.length = n) (hm : m ≤ 8) (hl : l.length + 4180 * n + 300000 ≤ 549755813888) :
  Calls Tryz.prog 49 #[.pointer (some ⟨pb, 0, none⟩), .int .i64 (m : Nat), .slice ao n c, .func (.func 50) #[] #[]] w fun e w' => e = .returned (.tuple #[]) ∧ ∃ v', Wv w' pb v' (l ++ nb m (n : Nat) ++ L.flatMap bdB) ∧ Wc pb w w' v v' := by
 have HW := hid hW
 have HN := hid hn
 have HL := hid hL
 have HIs := hid hIs
 have H5 := hid hS
 have HLw := hid hLow
 have HSl := hid hSl
 have HC := hid (wnum_c (m := m) (X := (n : Nat)) hW hm (by omega) (by omega) (by omega))
 have hnn : n ≤ 549755813888 := by omega
 have HLl := hid hl
 clear hW hn hL hIs hl hS hLow hSl
 go_enter Tryz.func49, Tryz.ntmps49
 go_wp2_with fail
 refine HC.out.mono ?_
 rintro e w1 ⟨rfl, v1, hW1, hC1⟩
 have HW1 := hid hW1
 have HC1 := hid hC1
 clear hW1 hC1
 go_wp2_with fail
 go_loopg [19] n (fun gg s19 wx => ∃ (k : Nat) (v2 : Value), k + gg = n ∧ s19 = .int .i64 (k : Nat) ∧ Hid (Wv wx pb v2 (l ++ nb m (n : Nat) ++ (L.take k).flatMap bdB)) ∧ Hid (Wc pb w wx v v2))
 case atStart => exact ⟨0, v1, by omega, by first | rfl | trivial, by rw [show (L.take 0).flatMap bdB = [] from rfl, List.append_nil]; exact HW1.out, HC1.out⟩
 case round =>
  obtain ⟨k, v2, hk, rfl, HW2, HC2⟩ := hrel
  by_cases hlt : k < n
  ·obtain ⟨a, ea⟩ : ∃ a, L[k]? = some a := ⟨_, List.getElem?_eq_getElem (by rw [HN.out]; omega)⟩
   have hmd := Wc.low HW.out HC2.out
   obtain ⟨b, off, rfl, hbl, hLB⟩ := HL.out wr hmd (by rw [HN.out]; omega)
   have hmem := List.mem_of_getElem? ea
   have HI := hid (HIs.out a hmem)
   have HLow := hid (HLw.out a hmem)
   have HA5 := hid (H5.out a hmem)
   have HS := hid (HSl.out wr hmd a hmem)
   have HA := hid ea
   have hcells := (hLB k _ ea).b11
   clear ea hLB hmem hmd
   obtain ⟨x0, x1, x2, x3, x4, x5, x6, x7, x8, x9, xo, xn, xc, xf⟩ := a
   obtain ⟨a0, a1, a2, a3, a4, a5, a6, a7, a8, a9, a10⟩ := hcells
   simp only [] at a0 a1 a2 a3 a4 a5 a6 a7 a8 a9 a10
   obtain ⟨W, eW⟩ : ∃ W, W = wr.alloc (.cells #[.int .i64 x0, .int .i64 x1, .int .i64 x2, .int .i64 x3, .int .i64 x4, .int .i64 x5, .int .i64 x6, .int .i64 x7, .int .i64 x8, .int .i64 x9, .slice xo xn xc] 35) := ⟨_, rfl⟩
   have KW : Hid (Made wr.heap.size wr W) := by unfold Hid; rw [eW]; exact (Made.rfl_ _ _).cells (Nat.le_refl _) _ _
   obtain ⟨g1, eg1⟩ : ∃ g, wr.heap.size = g := ⟨_, rfl⟩
   have HB : Hid (Has W g1 35 #[.int .i64 x0, .int .i64 x1, .int .i64 x2, .int .i64 x3, .int .i64 x4, .int .i64 x5, .int .i64 x6, .int .i64 x7, .int .i64 x8, .int .i64 x9, .slice xo xn xc]) := by unfold Hid; rw [eW, ← eg1]; exact has_new _ _ _
   have b0 : W.cell? ⟨g1, 0, none⟩ = some (.int .i64 x0) := HB.out.at_ 0
   have b1 : W.cell? ⟨g1, 1, none⟩ = some (.int .i64 x1) := HB.out.at_ 1
   have b2 : W.cell? ⟨g1, 2, none⟩ = some (.int .i64 x2) := HB.out.at_ 2
   have b3 : W.cell? ⟨g1, 3, none⟩ = some (.int .i64 x3) := HB.out.at_ 3
   have b4 : W.cell? ⟨g1, 4, none⟩ = some (.int .i64 x4) := HB.out.at_ 4
   have b5 : W.cell? ⟨g1, 5, none⟩ = some (.int .i64 x5) := HB.out.at_ 5
   have b6 : W.cell? ⟨g1, 6, none⟩ = some (.int .i64 x6) := HB.out.at_ 6
   have b7 : W.cell? ⟨g1, 7, none⟩ = some (.int .i64 x7) := HB.out.at_ 7
   have b8 : W.cell? ⟨g1, 8, none⟩ = some (.int .i64 x8) := HB.out.at_ 8
   have b9 : W.cell? ⟨g1, 9, none⟩ = some (.int .i64 x9) := HB.out.at_ 9
   have b10 : W.cell? ⟨g1, 10, none⟩ = some (.slice xo xn xc) := HB.out.at_ 10
   have hll : (l ++ nb m (n : Nat) ++ (L.take k).flatMap bdB).length + 200 + 16 * 255 ≤ 549755813888 := by
    rw [List.length_append, List.length_append, nb_len]
    have h := bdBs_len (L.take k) (fun o ho => H5.out o (List.mem_of_mem_take ho))
    have h2 : (L.take k).length ≤ n := by rw [List.length_take]; omega
    have h3 := HLl.out
    have h4 : 4180 * (L.take k).length ≤ 4180 * n := Nat.mul_le_mul_left _ h2
    omega
   have HCC := hid (cwbody_c (⟨x0, x1, x2, x3, x4, x5, x6, x7, x8, x9, xo, xn, xc, xf⟩ : Bd) (HW2.out.kept KW.out) HI.out (Sl.kept HS.out KW.out) (fun hn b off s e => HW2.out.off (.inl (HLow.out hn b off s e))) (by have h := HA5.out; simp only [] at h ⊢; omega))
   clear hll
   go_upto_region 4 with fail
   rw [← eW]
   clear eW
   try rw [eg1]
   clear eg1
   go_wp2_with fail
   refine HCC.out.mono ?_
   rintro e w' ⟨rfl, v3, hW3, hC3⟩
   have HW3 : Hid (Wv w' pb v3 (l ++ nb m (n : Nat) ++ (L.take (k + 1)).flatMap bdB)) := by
    unfold Hid
    have e1 : L.take (k + 1) = L.take k ++ [(⟨x0, x1, x2, x3, x4, x5, x6, x7, x8, x9, xo, xn, xc, xf⟩ : Bd)] := by rw [List.take_add_one, HA.out]; rfl
    rw [e1, List.flatMap_append, ← List.append_assoc]
    simpa using hW3
   have HC3 := hid ((HC2.out.made KW.out).then_ hC3)
   clear hW3 hC3
   go_wp2_with fail
   go_roundg (n - (k + 1))
   case measure => omega
   case rel => exact ⟨k + 1, v3, by omega, by go_num, HW3.out, HC3.out⟩
  ·have e : k = n := by omega
   go_wp2_with fail
   refine cvoid_end rfl rfl ⟨rfl, v2, ?_, HC2.out⟩
   have h := HW2.out
   rw [List.take_of_length_le (by rw [HN.out]; omega)] at h
   exact h
theorem jtB_len (b : Jt) : (jtB b).length ≤ 64 := by
 unfold jtB
 simp only [List.length_append, nb_len]; omega
theorem jtBs_len : ∀ (L : List Jt), (L.flatMap jtB).length ≤ 64 * L.length
 | [] => Nat.le_refl _
 | o :: L => by
  have h1 := jtBs_len L
  have h2 := jtB_len o
  rw [List.flatMap_cons, List.length_append, List.length_cons]
  omega
theorem cwjoints_c {pb n c m : Nat} {v : Value} {l : List Nat} {L : List Jt} {ao : Option Addr} {w : World} (hW : Wv w pb v l) (hL : ∀ u, Made pb w u → LsT encJ 8 u ao L) (hIs : ∀ b ∈ L, JtI b) (hn : L.length = n) (hm : m ≤ 8) (hl : l.length + 64 * n + 300000 ≤ 549755813888) :
  Calls Tryz.prog 51 #[.pointer (some ⟨pb, 0, none⟩), .int .i64 (m : Nat), .slice ao n c, .func (.func 52) #[] #[]] w fun e w' => e = .returned (.tuple #[]) ∧ ∃ v', Wv w' pb v' (l ++ nb m (n : Nat) ++ L.flatMap jtB) ∧ Wc pb w w' v v' := by
 have HW := hid hW
 have HN := hid hn
 have HL := hid hL
 have HIs := hid hIs
 have HC := hid (wnum_c (m := m) (X := (n : Nat)) hW hm (by omega) (by omega) (by omega))
 have hnn : n ≤ 549755813888 := by omega
 have HLl := hid hl
 clear hW hn hL hIs hl
 go_enter Tryz.func51, Tryz.ntmps51
 go_wp2_with fail
 refine HC.out.mono ?_
 rintro e w1 ⟨rfl, v1, hW1, hC1⟩
 have HW1 := hid hW1
 have HC1 := hid hC1
 clear hW1 hC1
 go_wp2_with fail
 go_loopg [19] n (fun gg s19 wx => ∃ (k : Nat) (v2 : Value), k + gg = n ∧ s19 = .int .i64 (k : Nat) ∧ Hid (Wv wx pb v2 (l ++ nb m (n : Nat) ++ (L.take k).flatMap jtB)) ∧ Hid (Wc pb w wx v v2))
 case atStart => exact ⟨0, v1, by omega, by first | rfl | trivial, by rw [show (L.take 0).flatMap jtB = [] from rfl, List.append_nil]; exact HW1.out, HC1.out⟩
 case round =>
  obtain ⟨k, v2, hk, rfl, HW2, HC2⟩ := hrel
  by_cases hlt : k < n
  ·obtain ⟨a, ea⟩ : ∃ a, L[k]? = some a := ⟨_, List.getElem?_eq_getElem (by rw [HN.out]; omega)⟩
   have hmd := Wc.low HW.out HC2.out
   obtain ⟨b, off, rfl, hbl, hLB⟩ := HL.out wr hmd (by rw [HN.out]; omega)
   have hmem := List.mem_of_getElem? ea
   have HI := hid (HIs.out a hmem)
   have HA := hid ea
   have hcells := (hLB k _ ea).j8
   clear ea hLB hmem hmd
   obtain ⟨x0, x1, x2, x3, x4, x5, x6, x7⟩ := a
   obtain ⟨a0, a1, a2, a3, a4, a5, a6, a7⟩ := hcells
   simp only [] at a0 a1 a2 a3 a4 a5 a6 a7
   obtain ⟨W, eW⟩ : ∃ W, W = wr.alloc (.cells #[.int .i64 x0, .int .i64 x1, .int .i64 x2, .int .i64 x3, .int .i64 x4, .int .i64 x5, .int .i64 x6, .int .i64 x7] 102) := ⟨_, rfl⟩
   have KW : Hid (Made wr.heap.size wr W) := by unfold Hid; rw [eW]; exact (Made.rfl_ _ _).cells (Nat.le_refl _) _ _
   obtain ⟨g1, eg1⟩ : ∃ g, wr.heap.size = g := ⟨_, rfl⟩
   have HB : Hid (Has W g1 102 #[.int .i64 x0, .int .i64 x1, .int .i64 x2, .int .i64 x3, .int .i64 x4, .int .i64 x5, .int .i64 x6, .int .i64 x7]) := by unfold Hid; rw [eW, ← eg1]; exact has_new _ _ _
   have b0 : W.cell? ⟨g1, 0, none⟩ = some (.int .i64 x0) := HB.out.at_ 0
   have b1 : W.cell? ⟨g1, 1, none⟩ = some (.int .i64 x1) := HB.out.at_ 1
   have b2 : W.cell? ⟨g1, 2, none⟩ = some (.int .i64 x2) := HB.out.at_ 2
   have b3 : W.cell? ⟨g1, 3, none⟩ = some (.int .i64 x3) := HB.out.at_ 3
   have b4 : W.cell? ⟨g1, 4, none⟩ = some (.int .i64 x4) := HB.out.at_ 4
   have b5 : W.cell? ⟨g1, 5, none⟩ = some (.int .i64 x5) := HB.out.at_ 5
   have b6 : W.cell? ⟨g1, 6, none⟩ = some (.int .i64 x6) := HB.out.at_ 6
   have b7 : W.cell? ⟨g1, 7, none⟩ = some (.int .i64 x7) := HB.out.at_ 7
   have hll : (l ++ nb m (n : Nat) ++ (L.take k).flatMap jtB).length + 200 + 16 * 255 ≤ 549755813888 := by
    rw [List.length_append, List.length_append, nb_len]
    have h := jtBs_len (L.take k)
    have h2 : (L.take k).length ≤ n := by rw [List.length_take]; omega
    have h3 := HLl.out
    have h4 : 64 * (L.take k).length ≤ 64 * n := Nat.mul_le_mul_left _ h2
    omega
   have HCC := hid (cwjoint_c (⟨x0, x1, x2, x3, x4, x5, x6, x7⟩ : Jt) (HW2.out.kept KW.out) HI.out (by omega))
   clear hll
   go_upto_region 4 with fail
   rw [← eW]
   clear eW
   try rw [eg1]
   clear eg1
   go_wp2_with fail
   refine HCC.out.mono ?_
   rintro e w' ⟨rfl, v3, hW3, hC3⟩
   have HW3 : Hid (Wv w' pb v3 (l ++ nb m (n : Nat) ++ (L.take (k + 1)).flatMap jtB)) := by
    unfold Hid
    have e1 : L.take (k + 1) = L.take k ++ [(⟨x0, x1, x2, x3, x4, x5, x6, x7⟩ : Jt)] := by rw [List.take_add_one, HA.out]; rfl
    rw [e1, List.flatMap_append, ← List.append_assoc]
    simpa using hW3
   have HC3 := hid ((HC2.out.made KW.out).then_ hC3)
   clear hW3 hC3
   go_wp2_with fail
   go_roundg (n - (k + 1))
   case measure => omega
   case rel => exact ⟨k + 1, v3, by omega, by go_num, HW3.out, HC3.out⟩
  ·have e : k = n := by omega
   go_wp2_with fail
   refine cvoid_end rfl rfl ⟨rfl, v2, ?_, HC2.out⟩
   have h := HW2.out
   rw [List.take_of_length_le (by rw [HN.out]; omega)] at h
   exact h
theorem ctB_len (b : Ct) : (ctB b).length ≤ 64 := by
 unfold ctB
 simp only [List.length_append, nb_len]; omega
theorem ctBs_len : ∀ (L : List Ct), (L.flatMap ctB).length ≤ 64 * L.length
 | [] => Nat.le_refl _
 | o :: L => by
  have h1 := ctBs_len L
  have h2 := ctB_len o
  rw [List.flatMap_cons, List.length_append, List.length_cons]
  omega
theorem cwcontacts_c {pb n c m : Nat} {v : Value} {l : List Nat} {L : List Ct} {ao : Option Addr} {w : World} (hW : Wv w pb v l) (hL : ∀ u, Made pb w u → LsT encC 5 u ao L) (hIs : ∀ b ∈ L, CtI b) (hn : L.length = n) (hm : m ≤ 8) (hl : l.length + 64 * n + 300000 ≤ 549755813888) :
  Calls Tryz.prog 53 #[.pointer (some ⟨pb, 0, none⟩), .int .i64 (m : Nat), .slice ao n c, .func (.func 54) #[] #[]] w fun e w' => e = .returned (.tuple #[]) ∧ ∃ v', Wv w' pb v' (l ++ nb m (n : Nat) ++ L.flatMap ctB) ∧ Wc pb w w' v v' := by
 have HW := hid hW
 have HN := hid hn
 have HL := hid hL
 have HIs := hid hIs
 have HC := hid (wnum_c (m := m) (X := (n : Nat)) hW hm (by omega) (by omega) (by omega))
 have hnn : n ≤ 549755813888 := by omega
 have HLl := hid hl
 clear hW hn hL hIs hl
 go_enter Tryz.func53, Tryz.ntmps53
 go_wp2_with fail
 refine HC.out.mono ?_
 rintro e w1 ⟨rfl, v1, hW1, hC1⟩
 have HW1 := hid hW1
 have HC1 := hid hC1
 clear hW1 hC1
 go_wp2_with fail
 go_loopg [19] n (fun gg s19 wx => ∃ (k : Nat) (v2 : Value), k + gg = n ∧ s19 = .int .i64 (k : Nat) ∧ Hid (Wv wx pb v2 (l ++ nb m (n : Nat) ++ (L.take k).flatMap ctB)) ∧ Hid (Wc pb w wx v v2))
 case atStart => exact ⟨0, v1, by omega, by first | rfl | trivial, by rw [show (L.take 0).flatMap ctB = [] from rfl, List.append_nil]; exact HW1.out, HC1.out⟩
 case round =>
  obtain ⟨k, v2, hk, rfl, HW2, HC2⟩ := hrel
  by_cases hlt : k < n
  ·obtain ⟨a, ea⟩ : ∃ a, L[k]? = some a := ⟨_, List.getElem?_eq_getElem (by rw [HN.out]; omega)⟩
   have hmd := Wc.low HW.out HC2.out
   obtain ⟨b, off, rfl, hbl, hLB⟩ := HL.out wr hmd (by rw [HN.out]; omega)
   have hmem := List.mem_of_getElem? ea
   have HI := hid (HIs.out a hmem)
   have HA := hid ea
   have hcells := (hLB k _ ea).c5
   clear ea hLB hmem hmd
   obtain ⟨x0, x1, x2, x3, x4⟩ := a
   obtain ⟨a0, a1, a2, a3, a4⟩ := hcells
   simp only [] at a0 a1 a2 a3 a4
   obtain ⟨W, eW⟩ : ∃ W, W = wr.alloc (.cells #[.int .i64 x0, .int .i64 x1, .int .i64 x2, .int .i64 x3, .int .i64 x4] 105) := ⟨_, rfl⟩
   have KW : Hid (Made wr.heap.size wr W) := by unfold Hid; rw [eW]; exact (Made.rfl_ _ _).cells (Nat.le_refl _) _ _
   obtain ⟨g1, eg1⟩ : ∃ g, wr.heap.size = g := ⟨_, rfl⟩
   have HB : Hid (Has W g1 105 #[.int .i64 x0, .int .i64 x1, .int .i64 x2, .int .i64 x3, .int .i64 x4]) := by unfold Hid; rw [eW, ← eg1]; exact has_new _ _ _
   have b0 : W.cell? ⟨g1, 0, none⟩ = some (.int .i64 x0) := HB.out.at_ 0
   have b1 : W.cell? ⟨g1, 1, none⟩ = some (.int .i64 x1) := HB.out.at_ 1
   have b2 : W.cell? ⟨g1, 2, none⟩ = some (.int .i64 x2) := HB.out.at_ 2
   have b3 : W.cell? ⟨g1, 3, none⟩ = some (.int .i64 x3) := HB.out.at_ 3
   have b4 : W.cell? ⟨g1, 4, none⟩ = some (.int .i64 x4) := HB.out.at_ 4
   have hll : (l ++ nb m (n : Nat) ++ (L.take k).flatMap ctB).length + 200 + 16 * 255 ≤ 549755813888 := by
    rw [List.length_append, List.length_append, nb_len]
    have h := ctBs_len (L.take k)
    have h2 : (L.take k).length ≤ n := by rw [List.length_take]; omega
    have h3 := HLl.out
    have h4 : 64 * (L.take k).length ≤ 64 * n := Nat.mul_le_mul_left _ h2
    omega
   have HCC := hid (cwcontact_c (⟨x0, x1, x2, x3, x4⟩ : Ct) (HW2.out.kept KW.out) HI.out (by omega))
   clear hll
   go_upto_region 4 with fail
   rw [← eW]
   clear eW
   try rw [eg1]
   clear eg1
   go_wp2_with fail
   refine HCC.out.mono ?_
   rintro e w' ⟨rfl, v3, hW3, hC3⟩
   have HW3 : Hid (Wv w' pb v3 (l ++ nb m (n : Nat) ++ (L.take (k + 1)).flatMap ctB)) := by
    unfold Hid
    have e1 : L.take (k + 1) = L.take k ++ [(⟨x0, x1, x2, x3, x4⟩ : Ct)] := by rw [List.take_add_one, HA.out]; rfl
    rw [e1, List.flatMap_append, ← List.append_assoc]
    simpa using hW3
   have HC3 := hid ((HC2.out.made KW.out).then_ hC3)
   clear hW3 hC3
   go_wp2_with fail
   go_roundg (n - (k + 1))
   case measure => omega
   case rel => exact ⟨k + 1, v3, by omega, by go_num, HW3.out, HC3.out⟩
  ·have e : k = n := by omega
   go_wp2_with fail
   refine cvoid_end rfl rfl ⟨rfl, v2, ?_, HC2.out⟩
   have h := HW2.out
   rw [List.take_of_length_le (by rw [HN.out]; omega)] at h
   exact h
def wdB (tk nbd nj gx gy : Int) (B : List Bd) (J : List Jt) (C : List Ct) : List Nat := nb 8 tk ++ nb 8 nbd ++ nb 8 nj ++ (nb 8 gx ++ nb 8 gy) ++ nb 2 (B.length : Nat) ++ B.flatMap bdB ++ nb 2 (J.length : Nat) ++ J.flatMap jtB ++ nb 4 (C.length : Nat) ++ C.flatMap ctB
theorem cworld_c {tk nbd nj gx gy : Int} {ob oj oc : Option Addr} {nB nJ nC cb cj cc : Nat} {B : List Bd} {J : List Jt} {C : List Ct} {w : World} (hA : WdAt w ob B oj J oc C) (hn : B.length = nB ∧ J.length = nJ ∧ C.length = nC) (hI : I64 tk ∧ I64 nbd ∧ I64 nj ∧ I64 gx ∧ I64 gy) (h5 : ∀ b ∈ B, b.n ≤ 255) (hmB : nB ≤ 1048576) (hmJ : nJ ≤ 1048576) (hmC : nC ≤ 1048576) :
  Calls Tryz.prog 17 #[wdV tk nbd nj gx gy (.slice ob nB cb) (.slice oj nJ cj) (.slice oc nC cc)] w fun e w' => ∃ ao' m c', e = .returned (.slice ao' m c') ∧ (wdB tk nbd nj gx gy B J C).length = m ∧ m ≤ 17179869184 ∧ m ≤ c' ∧ OB w' w.heap.size (.slice ao' m c') m (gl (wdB tk nbd nj gx gy B J C)) ∧ Made w.heap.size w w' := by
 have HA := hid hA
 have HN := hid hn
 have HI := hid hI
 have H5 := hid h5
 obtain ⟨W, eW⟩ : ∃ W, W = (w.alloc (.cells #[.int .i64 tk, .int .i64 nbd, .int .i64 nj, .int .i64 gx, .int .i64 gy, .slice ob nB cb, .slice oj nJ cj, .slice oc nC cc] 56)).alloc (.cells #[Value.slice none 0 0] 80) := ⟨_, rfl⟩
 obtain ⟨W0, eW0⟩ : ∃ W, W = w.alloc (.cells #[.int .i64 tk, .int .i64 nbd, .int .i64 nj, .int .i64 gx, .int .i64 gy, .slice ob nB cb, .slice oj nJ cj, .slice oc nC cc] 56) := ⟨_, rfl⟩
 have K0 : Made w.heap.size w W0 := by rw [eW0]; exact (Made.rfl_ _ _).cells (Nat.le_refl _) _ _
 have eW1 : W = W0.alloc (.cells #[Value.slice none 0 0] 80) := by rw [eW, eW0]
 have K1 : Made W0.heap.size W0 W := by rw [eW1]; exact (Made.rfl_ _ _).cells (Nat.le_refl _) _ _
 have KW := hid (K0.then_ (K1.low K0.1.size))
 obtain ⟨g1, eg1⟩ : ∃ g, w.heap.size = g := ⟨_, rfl⟩
 obtain ⟨pb, epb⟩ : ∃ g, W0.heap.size = g := ⟨_, rfl⟩
 have hpb1 : pb = g1 + 1 := by rw [← epb, eW0, ← eg1]; simp
 have epb' : (w.alloc (.cells #[.int .i64 tk, .int .i64 nbd, .int .i64 nj, .int .i64 gx, .int .i64 gy, .slice ob nB cb, .slice oj nJ cj, .slice oc nC cc] 56)).heap.size = pb := by rw [← eW0]; exact epb
 have HB : Hid (Has W g1 56 #[.int .i64 tk, .int .i64 nbd, .int .i64 nj, .int .i64 gx, .int .i64 gy, .slice ob nB cb, .slice oj nJ cj, .slice oc nC cc]) := by unfold Hid; rw [eW1]; refine Has.more ?_ _; rw [eW0, ← eg1]; exact has_new _ _ _
 have HW1 : Hid (Wv W pb (.slice none 0 0) []) := by unfold Hid; rw [eW1, ← epb]; exact Wv.new _ _
 have HPB := hid hpb1
 have HG1 := hid eg1
 have HG : Hid (¬ OwnW pb (.slice none 0 0) g1) := HW1.out.off (.inl (by omega))
 have HLw : Hid (∀ u, Made pb W u → WdAt u ob B oj J oc C) := fun u k => HA.out.kept (KW.out.then_ (k.low (by omega)))
 have e0 : W.cell? ⟨g1, 0, none⟩ = some (.int .i64 tk) := HB.out.at_ 0
 have e1 : W.cell? ⟨g1, 1, none⟩ = some (.int .i64 nbd) := HB.out.at_ 1
 have e2 : W.cell? ⟨g1, 2, none⟩ = some (.int .i64 nj) := HB.out.at_ 2
 have e3 : W.cell? ⟨g1, 3, none⟩ = some (.int .i64 gx) := HB.out.at_ 3
 have e4 : W.cell? ⟨g1, 4, none⟩ = some (.int .i64 gy) := HB.out.at_ 4
 have HLwB : Hid (∀ b ∈ B, 0 < b.n → ∀ o off s, b.ao = some ⟨o, off, s⟩ → o < pb) := fun b hb hn o off s e => by
  obtain ⟨b', off', e', hp⟩ := (HA.out.sB b hb).1 hn
  rw [e] at e'
  cases e'
  have h := World.block_lt_of_cell? _ _ (hp 0 hn).1
  have h : o < w.heap.size := h
  omega
 clear hA hn hI h5 K0 K1 eW1 eW0 epb hpb1
 go_enter Tryz.func17, Tryz.ntmps17
 go_upto_region 2 with fail
 first | rw [← eW] | (rw [eg1, epb'] ; rw [← eW])
 clear eW
 try rw [epb']
 clear epb'
 try rw [eg1]
 clear eg1
 refine RF.reg_flow (CW W pb (.slice none 0 0) [([] : List Nat), [] ++ nb 8 tk, [] ++ nb 8 tk ++ nb 8 nbd, [] ++ nb 8 tk ++ nb 8 nbd ++ nb 8 nj, [] ++ nb 8 tk ++ nb 8 nbd ++ nb 8 nj ++ vB (c1 gx gy) 1] [⟨12, 28, 1, #[.int .i64 gx, .int .i64 gy]⟩]) [[3, 6, 9, 13], [12]] [(12, 16)] [0, 1, 2, 4, 5, 7, 8, 10, 11] [(7, .pointer (some ⟨pb, 0, none⟩)), (10, .pointer (some ⟨pb, 0, none⟩)), (13, .pointer (some ⟨pb, 0, none⟩)), (17, .pointer (some ⟨pb, 0, none⟩))] 29 (by kernel_rfl) (CW.start HW1.out) (by kernel_rfl) rfl (by kernel_rfl) (by kernel_rfl) ?_
 apply Exists.intro
 refine ⟨?q1a, ?q1b, ?q1c⟩
 case q1a =>
  intro s G Ty hT f hf
  have z0 := CW.reads hf e0 HG.out
  have z1 := CW.reads hf e1 HG.out
  have z2 := CW.reads hf e2 HG.out
  have z3 := CW.reads hf e3 HG.out
  have z4 := CW.reads hf e4 HG.out
  clear hf
  simp only [RF.putF, Act.put, List.setIfInBounds_toArray, List.set_cons_succ, List.set_cons_zero]
  change wpQuiet _ _ _ _ [_, _, _, _, _, _, _, _, _] _
  repeat (go_big_quiet_step (fail))
  exact wpQuiet_nil rfl
 case q1b =>
  refine ⟨⟨?_, ?_, ?_, ?_, trivial⟩, ⟨?_, trivial⟩, trivial⟩
  ·intro s G u hC hk hw
   rw [show (execOp _ _).run Tryz.prog u = .ok (.enter 19 #[.pointer (some ⟨pb, 0, none⟩), .int .i64 8, .int .i64 tk]) u by kernel_rfl]
   refine CW.call hC hk rfl (fun d e => by cases e; rfl) fun v hv hc ha => ?_
   refine (wnum_c (m := 8) hv (by omega) (by show List.length (([] : List Nat))  ≤ _; have e0 : ([] : List Nat).length = 0 := rfl; omega) (HI.out.1.1) (HI.out.1.2)).mono ?_
   rintro e u' ⟨rfl, v', h1, h2⟩
   exact ⟨rfl, v', h1, h2⟩
  ·intro s G u hC hk hw
   rw [show (execOp _ _).run Tryz.prog u = .ok (.enter 19 #[.pointer (some ⟨pb, 0, none⟩), .int .i64 8, .int .i64 nbd]) u by kernel_rfl]
   refine CW.call hC hk rfl (fun d e => by cases e; rfl) fun v hv hc ha => ?_
   refine (wnum_c (m := 8) hv (by omega) (by show List.length ([] ++ nb 8 tk)  ≤ _; have e0 : ([] : List Nat).length = 0 := rfl; simp only [List.length_append, nb_len]; omega) (HI.out.2.1.1) (HI.out.2.1.2)).mono ?_
   rintro e u' ⟨rfl, v', h1, h2⟩
   exact ⟨rfl, v', h1, h2⟩
  ·intro s G u hC hk hw
   rw [show (execOp _ _).run Tryz.prog u = .ok (.enter 19 #[.pointer (some ⟨pb, 0, none⟩), .int .i64 8, .int .i64 nj]) u by kernel_rfl]
   refine CW.call hC hk rfl (fun d e => by cases e; rfl) fun v hv hc ha => ?_
   refine (wnum_c (m := 8) hv (by omega) (by show List.length ([] ++ nb 8 tk ++ nb 8 nbd)  ≤ _; have e0 : ([] : List Nat).length = 0 := rfl; simp only [List.length_append, nb_len]; omega) (HI.out.2.2.1.1) (HI.out.2.2.1.2)).mono ?_
   rintro e u' ⟨rfl, v', h1, h2⟩
   exact ⟨rfl, v', h1, h2⟩
  ·intro s G u hC hk hw
   rw [show (execOp _ _).run Tryz.prog u = .ok (.enter 20 #[.pointer (some ⟨pb, 0, none⟩), G 12]) u by kernel_rfl]
   refine CW.call hC hk rfl (fun d e => by cases e; rfl) fun v hv hc ha => ?_
   obtain ⟨g, eg, hg, og⟩ := ha 0 _ rfl (hw 1 0 12 rfl (by kernel_rfl))
   rw [show G 12 = _ from eg]
   refine (wv_c (n := 1) (c := 1) hv (sl1 hg) (fun _ => offs_of og (by omega)) (cin_c1 HI.out.2.2.2.1 HI.out.2.2.2.2) (by show List.length ([] ++ nb 8 tk ++ nb 8 nbd ++ nb 8 nj) + 16 * 1 ≤ _; have e0 : ([] : List Nat).length = 0 := rfl; simp only [List.length_append, nb_len]; omega)).mono ?_
   rintro e u' ⟨rfl, v', h1, h2⟩
   exact ⟨rfl, v', h1, h2⟩
  ·intro s G u hC hk hw
   rw [show (execOp _ _).run Tryz.prog u = .ok (.value (.slice (some ⟨u.heap.size, 0, none⟩) 1 1)) (u.alloc (.cells #[.int .i64 gx, .int .i64 gy] 28)) by kernel_rfl]
   exact CW.make (i := 0) hC _ rfl rfl (fun i' a' h hne => by
    match i', h with
    | 0, h => exact absurd rfl hne
    | n + 1, h => simp at h)
 case q1c =>
  intro G u2 hu
  obtain ⟨v2, hv2, hc2, _⟩ := hu
  have HV2 : Hid (Wv u2 pb v2 ([] ++ nb 8 tk ++ nb 8 nbd ++ nb 8 nj ++ vB (c1 gx gy) 1)) := hv2
  have HC2 := hid hc2
  have f5 : u2.cell? ⟨g1, 5, none⟩ = some (.slice ob nB cb) := hc2.but.cell (HB.out.at_ 5) HG.out
  have HM2 := hid (Wc.low HW1.out hc2)
  have hlen : Hid (([] ++ nb 8 tk ++ nb 8 nbd ++ nb 8 nj ++ vB (c1 gx gy) 1).length ≤ 100) := by unfold Hid; simp only [List.length_append, List.length_nil, nb_len, vB_len]; omega
  have HCb := hid (cwbodies_c (m := 2) (c := cb) HV2.out (fun u k => (HLw.out u (HM2.out.then_ k)).lB) (fun b hb => (HA.out.sB b hb).2) H5.out HLwB.out (fun u k b hb => ((HLw.out u (HM2.out.then_ k)).sB b hb).1) HN.out.1 (by omega) (by have := hlen.out; omega))
  clear hv2 hc2 e0 e1 e2 e3 e4
  simp only [RF.AG, Act.put, List.setIfInBounds_toArray, List.set_cons_succ, List.set_cons_zero]
  go_wp2_with fail
  refine HCb.out.mono ?_
  rintro e u3 ⟨rfl, v3, hv3, hc3⟩
  have HV3 : Hid (Wv u3 pb v3 ([] ++ nb 8 tk ++ nb 8 nbd ++ nb 8 nj ++ vB (c1 gx gy) 1 ++ nb 2 (nB : Nat) ++ B.flatMap bdB)) := hv3
  have HC3 := hid (HC2.out.then_ hc3)
  have f6 : u3.cell? ⟨g1, 6, none⟩ = some (.slice oj nJ cj) := HC3.out.but.cell (HB.out.at_ 6) HG.out
  have HM3 := hid (Wc.low HW1.out HC3.out)
  have hlen3 : Hid (([] ++ nb 8 tk ++ nb 8 nbd ++ nb 8 nj ++ vB (c1 gx gy) 1 ++ nb 2 (nB : Nat) ++ B.flatMap bdB).length ≤ 4400000000) := by unfold Hid; have h := bdBs_len B H5.out; rw [HN.out.1] at h; rw [List.length_append, List.length_append, nb_len]; have := hlen.out; omega
  have HCj := hid (cwjoints_c (m := 2) (c := cj) HV3.out (fun u k => (HLw.out u (HM3.out.then_ k)).lJ) HA.out.iJ HN.out.2.1 (by omega) (by have := hlen3.out; omega))
  clear hv3 hc3 f5
  go_wp2_with fail
  refine HCj.out.mono ?_
  rintro e u4 ⟨rfl, v4, hv4, hc4⟩
  have HV4 : Hid (Wv u4 pb v4 ([] ++ nb 8 tk ++ nb 8 nbd ++ nb 8 nj ++ vB (c1 gx gy) 1 ++ nb 2 (nB : Nat) ++ B.flatMap bdB ++ nb 2 (nJ : Nat) ++ J.flatMap jtB)) := hv4
  have HC4 := hid (HC3.out.then_ hc4)
  have f7 : u4.cell? ⟨g1, 7, none⟩ = some (.slice oc nC cc) := HC4.out.but.cell (HB.out.at_ 7) HG.out
  have HM4 := hid (Wc.low HW1.out HC4.out)
  have hlen4 : Hid (([] ++ nb 8 tk ++ nb 8 nbd ++ nb 8 nj ++ vB (c1 gx gy) 1 ++ nb 2 (nB : Nat) ++ B.flatMap bdB ++ nb 2 (nJ : Nat) ++ J.flatMap jtB).length ≤ 4500000000) := by unfold Hid; have h := jtBs_len J; rw [HN.out.2.1] at h; rw [List.length_append, List.length_append, nb_len]; have := hlen3.out; omega
  have HCc := hid (cwcontacts_c (m := 4) (c := cc) HV4.out (fun u k => (HLw.out u (HM4.out.then_ k)).lC) HA.out.iC HN.out.2.2 (by omega) (by have := hlen4.out; omega))
  clear hv4 hc4 f6
  go_wp2_with fail
  refine HCc.out.mono ?_
  rintro e u5 ⟨rfl, v5, hv5, hc5⟩
  have HV5 : Hid (Wv u5 pb v5 (wdB tk nbd nj gx gy B J C)) := by
   unfold Hid wdB
   rw [HN.out.1, HN.out.2.1, HN.out.2.2]
   rw [vB1] at hv5
   simpa only [List.append_assoc, List.nil_append] using hv5
  have HC5 := hid (HC4.out.then_ hc5)
  have HM5 : Hid (Made w.heap.size w u5) := KW.out.then_ ((Wc.low HW1.out HC5.out).low (by have := HPB.out; have := HG1.out; omega))
  have hlen5 : Hid ((wdB tk nbd nj gx gy B J C).length ≤ 17179869184) := by
   unfold Hid wdB
   have h := ctBs_len C
   have h2 := jtBs_len J
   have h3 := bdBs_len B H5.out
   rw [HN.out.2.2] at h
   rw [HN.out.2.1] at h2
   rw [HN.out.1] at h3
   simp only [List.length_append, nb_len]
   omega
  clear hv5 hc5 f7
  go_wp2_with fail
  refine (wbytes_c HV5.out (by have := hlen5.out; omega)).mono ?_
  rintro e u6 ⟨ao', c', rfl, hc', hO, hM⟩
  have HO := hid hO
  have HM6 := hid (HM5.out.then_ (hM.low HM5.out.1.size))
  clear hO hM
  go_wp2_with fail
  go_ret
  exact ⟨ao', _, c', rfl, rfl, hlen5.out, hc', HO.out.low HM5.out.1.size, HM6.out⟩
end Go.Proofs.YtgdcphmmehedoaaGreat.Fx
/- Package codec: codec.ReadWorld of an empty world's bytes. -/
namespace Go.Proofs.YtgdcphmmehedoaaGreat.Fx
open Go.ChangeShapes Go.WideShapes Go.ChangeAt Go.RowKit
set_option linter.unusedVariables false
theorem rbodies0_c {pb B : Nat} {l : List Nat} {v : Value} {w : World} (h : Rd w pb B (some l)) : Calls Tryz.prog 62 #[rdV pb, .int .i64 0, v] w fun e w' => e = .returned (.slice none 0 0) ∧ Rd w' pb B (some l) ∧ But (fun b => b = pb) w w' := by
 have KA : Hid (Made w.heap.size w (w.alloc (.cells #[.pointer (some ⟨pb, 0, none⟩)] 88))) := (Made.rfl_ _ _).cells (Nat.le_refl _) _ _
 have HR := hid (h.kept KA.out)
 clear h
 go_enter Tryz.func62, Tryz.ntmps62
 go_wp2_with fail
 go_loopg [7] 0 (fun gg s7 wx => s7 = .slice none 0 0 ∧ Hid (Rd wx pb B (some l)) ∧ Hid (But (fun b => b = pb) w wx))
 case atStart => exact ⟨rfl, HR.out, Made.but KA.out⟩
 case round =>
  obtain ⟨rfl, HR1, HM⟩ := hrel
  go_wp2_with fail
  go_ret
  exact ⟨rfl, HR1.out, HM.out⟩
theorem rjoints0_c {pb B : Nat} {l : List Nat} {v : Value} {w : World} (h : Rd w pb B (some l)) : Calls Tryz.prog 64 #[rdV pb, .int .i64 0, v] w fun e w' => e = .returned (.slice none 0 0) ∧ Rd w' pb B (some l) ∧ But (fun b => b = pb) w w' := by
 have KA : Hid (Made w.heap.size w (w.alloc (.cells #[.pointer (some ⟨pb, 0, none⟩)] 88))) := (Made.rfl_ _ _).cells (Nat.le_refl _) _ _
 have HR := hid (h.kept KA.out)
 clear h
 go_enter Tryz.func64, Tryz.ntmps64
 go_wp2_with fail
 go_loopg [7] 0 (fun gg s7 wx => s7 = .slice none 0 0 ∧ Hid (Rd wx pb B (some l)) ∧ Hid (But (fun b => b = pb) w wx))
 case atStart => exact ⟨rfl, HR.out, Made.but KA.out⟩
 case round =>
  obtain ⟨rfl, HR1, HM⟩ := hrel
  go_wp2_with fail
  go_ret
  exact ⟨rfl, HR1.out, HM.out⟩
theorem rcontacts0_c {pb B : Nat} {l : List Nat} {v : Value} {w : World} (h : Rd w pb B (some l)) : Calls Tryz.prog 66 #[rdV pb, .int .i64 0, v] w fun e w' => e = .returned (.slice none 0 0) ∧ Rd w' pb B (some l) ∧ But (fun b => b = pb) w w' := by
 have KA : Hid (Made w.heap.size w (w.alloc (.cells #[.pointer (some ⟨pb, 0, none⟩)] 88))) := (Made.rfl_ _ _).cells (Nat.le_refl _) _ _
 have HR := hid (h.kept KA.out)
 clear h
 go_enter Tryz.func66, Tryz.ntmps66
 go_wp2_with fail
 go_loopg [7] 0 (fun gg s7 wx => s7 = .slice none 0 0 ∧ Hid (Rd wx pb B (some l)) ∧ Hid (But (fun b => b = pb) w wx))
 case atStart => exact ⟨rfl, HR.out, Made.but KA.out⟩
 case round =>
  obtain ⟨rfl, HR1, HM⟩ := hrel
  go_wp2_with fail
  go_ret
  exact ⟨rfl, HR1.out, HM.out⟩
def e10 : List Nat := []
def e9 : List Nat := nb 4 0 ++ e10
def e7 : List Nat := nb 2 0 ++ e9
def e5 : List Nat := nb 2 0 ++ e7
def e4 : List Nat := nb 8 0 ++ (nb 8 0 ++ e5)
def e3 : List Nat := nb 8 1 ++ e4
def e2 : List Nat := nb 8 1 ++ e3
def e1 : List Nat := nb 8 0 ++ e2
theorem e1_is : wdB 0 1 1 0 0 [] [] [] = e1 := by
 unfold wdB e1 e2 e3 e4 e5 e7 e9 e10
 simp only [List.append_assoc, List.flatMap_nil, List.append_nil, List.length_nil]
 rfl
theorem i0 : I64 0 := by unfold I64; omega
theorem i1 : I64 1 := by unfold I64; omega
theorem lt_e : ∀ b ∈ e1, b < 256 := by
 intro b hb
 unfold e1 e2 e3 e4 e5 e7 e9 e10 at hb
 simp only [List.mem_append, List.not_mem_nil, or_false] at hb
 rcases hb with h | h | h | h | h | h | h | h <;> exact nb_lt h
theorem e_lt {l k : List Nat} (h : ∀ b ∈ l ++ k, b < 256) : ∀ b ∈ k, b < 256 := fun b hb => h b (List.mem_append_right _ hb)
theorem lt_2 : ∀ b ∈ e2, b < 256 := e_lt (l := nb 8 0) lt_e
theorem lt_3 : ∀ b ∈ e3, b < 256 := e_lt (l := nb 8 1) lt_2
theorem lt_4 : ∀ b ∈ e4, b < 256 := e_lt (l := nb 8 1) lt_3
theorem lt_5 : ∀ b ∈ e5, b < 256 := e_lt (l := nb 8 0) (e_lt (l := nb 8 0) lt_4)
theorem lt_7 : ∀ b ∈ e7, b < 256 := e_lt (l := nb 2 0) lt_5
theorem lt_9 : ∀ b ∈ e9, b < 256 := e_lt (l := nb 2 0) lt_7
theorem dC0 (l : List Nat) : dC 1024 (some (nb 2 0 ++ l)) = (0, some l) := by
 unfold dC
 rw [dN_nb 2 (by omega) 0 (by omega) (by omega), if_neg (by simp only []; omega)]
theorem creadworld0_c {c n : Nat} {ao : Option Addr} {w : World} (hA : By w ao n (gl e1)) (hn : e1.length = n) :
  Calls Tryz.prog 23 #[.slice ao n c] w fun e w' => e = .returned (.tuple #[wd0, .int .i64 0]) ∧ Made w.heap.size w w' := by
 have hl : n ≤ 1000 := by rw [← hn]; unfold e1 e2 e3 e4 e5 e7 e9 e10; simp only [List.length_append, nb_len, List.length_nil]; omega
 obtain ⟨W0, eW0⟩ : ∃ W, W = w.alloc (.cells #[.int .i64 0, .int .i64 0, .int .i64 0, .int .i64 0, .int .i64 0, .slice none 0 0, .slice none 0 0, .slice none 0 0] 56) := ⟨_, rfl⟩
 have K0 : Hid (Made w.heap.size w W0) := by unfold Hid; rw [eW0]; exact (Made.rfl_ _ _).cells (Nat.le_refl _) _ _
 obtain ⟨g2, eg2⟩ : ∃ g, w.heap.size = g := ⟨_, rfl⟩
 have HG2 := hid eg2
 have HZ0 : Hid (Has W0 g2 56 #[.int .i64 0, .int .i64 0, .int .i64 0, .int .i64 0, .int .i64 0, .slice none 0 0, .slice none 0 0, .slice none 0 0]) := by unfold Hid; rw [eW0, ← eg2]; exact has_new _ _ _
 have HNew := hid (pnew_c (c := c) (hA.kept K0.out) (by omega : n ≤ 1099511627776))
 have HN := hid hn
 clear hA hn
 go_enter Tryz.func23, Tryz.ntmps23
 go_upto_region 1 with fail
 rw [← eW0]
 clear eW0
 try rw [eg2]
 clear eg2
 go_wp2_with fail
 refine HNew.out.mono ?_
 rintro e w1 ⟨pb, ao1, c1, rfl, hpb, hRe, hM1⟩
 have hpl : pb < w1.heap.size := hRe.here
 have HR1 : Hid (Rd w1 pb w1.heap.size (some e1)) := by
  refine ⟨hpl, ao1, c1, by rw [HN.out]; exact hRe, fun h0 b off e => ?_⟩
  obtain ⟨b', off', e', hc⟩ := hRe.by_ (by rw [← HN.out]; exact h0)
  rw [e] at e'
  cases e'
  exact World.block_lt_of_cell? (a := ⟨b, off + 0, none⟩) w1 (hc 0 (by rw [← HN.out]; exact h0))
 have HP : Hid (W0.heap.size ≤ pb) := hpb
 have HM1 := hid hM1
 obtain ⟨B, eB⟩ : ∃ B, w1.heap.size = B := ⟨_, rfl⟩
 obtain ⟨W, eW⟩ : ∃ W, W = w1.alloc (.cells #[.pointer (some ⟨pb, 0, none⟩)] 88) := ⟨_, rfl⟩
 have KW : Hid (Made w1.heap.size w1 W) := by unfold Hid; rw [eW]; exact (Made.rfl_ _ _).cells (Nat.le_refl _) _ _
 have HH : Hid (Has W B 88 #[.pointer (some ⟨pb, 0, none⟩)]) := by unfold Hid; rw [eW, ← eB]; exact has_new _ _ _
 have HRW := hid (HR1.out.kept KW.out)
 have HMW : Hid (Made W0.heap.size W0 W) := HM1.out.then_ (KW.out.low HM1.out.1.size)
 have HZW : Hid (Has W g2 56 #[.int .i64 0, .int .i64 0, .int .i64 0, .int .i64 0, .int .i64 0, .slice none 0 0, .slice none 0 0, .slice none 0 0]) := HZ0.out.stays HMW.out HZ0.out.here
 rw [eB] at HRW hpl
 have HBl : Hid (B ≤ W.heap.size ∧ W0.heap.size ≤ B ∧ g2 < W0.heap.size) := by unfold Hid; rw [← eB]; exact ⟨KW.out.1.size, HM1.out.1.size, HZ0.out.here⟩
 have HPB := hid hpl
 have p0 : W.cell? ⟨B, 0, none⟩ = some (.pointer (some ⟨pb, 0, none⟩)) := HH.out.at_ 0
 clear hRe hM1 hpb KW HR1 hpl HZ0
 go_upto_region 2 with fail
 rw [← eW]
 clear eW
 try rw [eB]
 clear eB HNew
 refine RF.reg_flow (fun s G u => Rd u pb B ([some e1, some e2, some e3, some e4, some e5, some e7, some e7, some e9, some e9, some e10, some e10].getD (s 0) none) ∧ But (fun b => b = pb) W u ∧ (1 ≤ s 1 → ∃ g, G 28 = .pointer (some ⟨g, 0, none⟩) ∧ W.heap.size ≤ g ∧ Has u g 56 (if s 1 < 2 then #[.int .i64 0, .int .i64 0, .int .i64 0, .int .i64 0, .int .i64 0, .slice none 0 0, .slice none 0 0, .slice none 0 0] else #[.int .i64 0, .int .i64 1, .int .i64 1, .int .i64 0, .int .i64 0, .slice none 0 0, .slice none 0 0, .slice none 0 0]))) [[2, 5, 8, 11, 15, 16, 20, 21, 25, 26], [28, 29]] [(28, 5)] [0, 1, 3, 4, 6, 7, 9, 10, 12, 13, 14, 17, 18, 19, 22, 23, 24, 27] [(11, .int .i64 0), (14, .int .i64 1), (17, .int .i64 1), (20, paV (0, 0)), (24, .int .i64 0), (25, .slice none 0 0), (29, .int .i64 0), (30, .slice none 0 0), (34, .int .i64 0), (35, .slice none 0 0)] 48 (by kernel_rfl) ⟨HRW.out.kept (made_draw _), Made.but (made_draw _), fun h => absurd h (by decide)⟩ (by kernel_rfl) rfl (by kernel_rfl) (by kernel_rfl) ?_
 apply Exists.intro
 refine ⟨?qa, ?qb, ?qc⟩
 case qa =>
  intro s G Ty hT f hf
  have z0 : ∀ x, (f x).cell? ⟨B, 0, none⟩ = some (.pointer (some ⟨pb, 0, none⟩)) := fun x => ((hf (f x)).2 ⟨x, rfl⟩).2.1.cell p0 (fun e => by have := HPB.out; have e : B = pb := e; omega)
  clear hf
  simp only [RF.putF, Act.put, List.setIfInBounds_toArray, List.set_cons_succ, List.set_cons_zero]
  change wpQuiet _ _ _ _ [_, _, _, _, _, _, _, _, _, _, _, _, _, _, _, _, _, _] _
  repeat (go_big_quiet_step (fail))
  exact wpQuiet_nil rfl
 case qb =>
  refine ⟨⟨?_, ?_, ?_, ?_, ?_, ?_, ?_, ?_, ?_, ?_, trivial⟩, ⟨?_, ?_, trivial⟩, trivial⟩
  ·intro s G u hC hk hw
   rw [show (execOp _ _).run Tryz.prog u = .ok (.enter 60 #[.pointer (some ⟨pb, 0, none⟩), .int .i64 8]) u by kernel_rfl]
   obtain ⟨hR, hM, hX⟩ := hC
   rw [hk] at hR
   have hR : Rd u pb B (some e1) := hR
   have hsz : B ≤ u.heap.size := Nat.le_trans HBl.out.1 hM.size
   have hcall : Calls Tryz.prog 60 #[.pointer (some ⟨pb, 0, none⟩), .int .i64 8] u fun e u' => e = .returned (.int .i64 0) ∧ Rd u' pb B (some e2) ∧ But (fun b => b = pb) u u' := (by have h := rN_c (m := 8) hR (rs_of lt_e) (by omega) (by omega); rw [show dN 8 (some e1) = (0, some e2) from dN_nb8 0 i0 _] at h; exact h)
   refine Calls.mono hcall ?_
   rintro e u' ⟨rfl, h1, h2⟩
   refine ⟨_, rfl, ⟨?_, hM.then_ h2, fun h => ?_⟩, .inr fun d e => by cases e; rfl⟩
   ·rw [RF.upd_same]; exact h1
   ·rw [RF.upd_else _ _ (show (1 : Nat) ≠ 0 by decide)] at h ⊢
    obtain ⟨g, x1, x2, x3⟩ := hX h
    exact ⟨g, x1, x2, x3.but h2 (fun e => by have e : g = pb := e; have := HPB.out; have := HBl.out; omega)⟩
  ·intro s G u hC hk hw
   rw [show (execOp _ _).run Tryz.prog u = .ok (.enter 60 #[.pointer (some ⟨pb, 0, none⟩), .int .i64 8]) u by kernel_rfl]
   obtain ⟨hR, hM, hX⟩ := hC
   rw [hk] at hR
   have hR : Rd u pb B (some e2) := hR
   have hsz : B ≤ u.heap.size := Nat.le_trans HBl.out.1 hM.size
   have hcall : Calls Tryz.prog 60 #[.pointer (some ⟨pb, 0, none⟩), .int .i64 8] u fun e u' => e = .returned (.int .i64 1) ∧ Rd u' pb B (some e3) ∧ But (fun b => b = pb) u u' := (by have h := rN_c (m := 8) hR (rs_of lt_2) (by omega) (by omega); rw [show dN 8 (some e2) = (1, some e3) from dN_nb8 1 i1 _] at h; exact h)
   refine Calls.mono hcall ?_
   rintro e u' ⟨rfl, h1, h2⟩
   refine ⟨_, rfl, ⟨?_, hM.then_ h2, fun h => ?_⟩, .inr fun d e => by cases e; rfl⟩
   ·rw [RF.upd_same]; exact h1
   ·rw [RF.upd_else _ _ (show (1 : Nat) ≠ 0 by decide)] at h ⊢
    obtain ⟨g, x1, x2, x3⟩ := hX h
    exact ⟨g, x1, x2, x3.but h2 (fun e => by have e : g = pb := e; have := HPB.out; have := HBl.out; omega)⟩
  ·intro s G u hC hk hw
   rw [show (execOp _ _).run Tryz.prog u = .ok (.enter 60 #[.pointer (some ⟨pb, 0, none⟩), .int .i64 8]) u by kernel_rfl]
   obtain ⟨hR, hM, hX⟩ := hC
   rw [hk] at hR
   have hR : Rd u pb B (some e3) := hR
   have hsz : B ≤ u.heap.size := Nat.le_trans HBl.out.1 hM.size
   have hcall : Calls Tryz.prog 60 #[.pointer (some ⟨pb, 0, none⟩), .int .i64 8] u fun e u' => e = .returned (.int .i64 1) ∧ Rd u' pb B (some e4) ∧ But (fun b => b = pb) u u' := (by have h := rN_c (m := 8) hR (rs_of lt_3) (by omega) (by omega); rw [show dN 8 (some e3) = (1, some e4) from dN_nb8 1 i1 _] at h; exact h)
   refine Calls.mono hcall ?_
   rintro e u' ⟨rfl, h1, h2⟩
   refine ⟨_, rfl, ⟨?_, hM.then_ h2, fun h => ?_⟩, .inr fun d e => by cases e; rfl⟩
   ·rw [RF.upd_same]; exact h1
   ·rw [RF.upd_else _ _ (show (1 : Nat) ≠ 0 by decide)] at h ⊢
    obtain ⟨g, x1, x2, x3⟩ := hX h
    exact ⟨g, x1, x2, x3.but h2 (fun e => by have e : g = pb := e; have := HPB.out; have := HBl.out; omega)⟩
  ·intro s G u hC hk hw
   rw [show (execOp _ _).run Tryz.prog u = .ok (.enter 61 #[.pointer (some ⟨pb, 0, none⟩)]) u by kernel_rfl]
   obtain ⟨hR, hM, hX⟩ := hC
   rw [hk] at hR
   have hR : Rd u pb B (some e4) := hR
   have hsz : B ≤ u.heap.size := Nat.le_trans HBl.out.1 hM.size
   have hcall : Calls Tryz.prog 61 #[.pointer (some ⟨pb, 0, none⟩)] u fun e u' => e = .returned (paV (0, 0)) ∧ Rd u' pb B (some e5) ∧ But (fun b => b = pb) u u' := (by have h := rV_c hR (rs_of lt_4) hsz; rw [show dV (some e4) = ((0, 0), some e5) from dV_of i0 i0 _] at h; exact h)
   refine Calls.mono hcall ?_
   rintro e u' ⟨rfl, h1, h2⟩
   refine ⟨_, rfl, ⟨?_, hM.then_ h2, fun h => ?_⟩, .inr fun d e => by cases e; rfl⟩
   ·rw [RF.upd_same]; exact h1
   ·rw [RF.upd_else _ _ (show (1 : Nat) ≠ 0 by decide)] at h ⊢
    obtain ⟨g, x1, x2, x3⟩ := hX h
    exact ⟨g, x1, x2, x3.but h2 (fun e => by have e : g = pb := e; have := HPB.out; have := HBl.out; omega)⟩
  ·intro s G u hC hk hw
   rw [show (execOp _ _).run Tryz.prog u = .ok (.enter 29 #[.pointer (some ⟨pb, 0, none⟩), .int .i64 1024]) u by kernel_rfl]
   obtain ⟨hR, hM, hX⟩ := hC
   rw [hk] at hR
   have hR : Rd u pb B (some e5) := hR
   have hsz : B ≤ u.heap.size := Nat.le_trans HBl.out.1 hM.size
   have hcall : Calls Tryz.prog 29 #[.pointer (some ⟨pb, 0, none⟩), .int .i64 1024] u fun e u' => e = .returned (.int .i64 0) ∧ Rd u' pb B (some e7) ∧ But (fun b => b = pb) u u' := (by have h := rC_c (most := 1024) hR (rs_of lt_5); rw [show dC 1024 (some e5) = (0, some e7) from dC0 _] at h; exact h)
   refine Calls.mono hcall ?_
   rintro e u' ⟨rfl, h1, h2⟩
   refine ⟨_, rfl, ⟨?_, hM.then_ h2, fun h => ?_⟩, .inr fun d e => by cases e; rfl⟩
   ·rw [RF.upd_same]; exact h1
   ·rw [RF.upd_else _ _ (show (1 : Nat) ≠ 0 by decide)] at h ⊢
    obtain ⟨g, x1, x2, x3⟩ := hX h
    exact ⟨g, x1, x2, x3.but h2 (fun e => by have e : g = pb := e; have := HPB.out; have := HBl.out; omega)⟩
  ·intro s G u hC hk hw
   rw [show (execOp _ _).run Tryz.prog u = .ok (.enter 62 #[rdV pb, .int .i64 0, .func (.func 63) #[] #[]]) u by kernel_rfl]
   obtain ⟨hR, hM, hX⟩ := hC
   rw [hk] at hR
   have hR : Rd u pb B (some e7) := hR
   have hsz : B ≤ u.heap.size := Nat.le_trans HBl.out.1 hM.size
   have hcall : Calls Tryz.prog 62 #[rdV pb, .int .i64 0, .func (.func 63) #[] #[]] u fun e u' => e = .returned (.slice none 0 0) ∧ Rd u' pb B (some e7) ∧ But (fun b => b = pb) u u' := (rbodies0_c hR)
   refine Calls.mono hcall ?_
   rintro e u' ⟨rfl, h1, h2⟩
   refine ⟨_, rfl, ⟨?_, hM.then_ h2, fun h => ?_⟩, .inr fun d e => by cases e; rfl⟩
   ·rw [RF.upd_same]; exact h1
   ·rw [RF.upd_else _ _ (show (1 : Nat) ≠ 0 by decide)] at h ⊢
    obtain ⟨g, x1, x2, x3⟩ := hX h
    exact ⟨g, x1, x2, x3.but h2 (fun e => by have e : g = pb := e; have := HPB.out; have := HBl.out; omega)⟩
  ·intro s G u hC hk hw
   rw [show (execOp _ _).run Tryz.prog u = .ok (.enter 29 #[.pointer (some ⟨pb, 0, none⟩), .int .i64 1024]) u by kernel_rfl]
   obtain ⟨hR, hM, hX⟩ := hC
   rw [hk] at hR
   have hR : Rd u pb B (some e7) := hR
   have hsz : B ≤ u.heap.size := Nat.le_trans HBl.out.1 hM.size
   have hcall : Calls Tryz.prog 29 #[.pointer (some ⟨pb, 0, none⟩), .int .i64 1024] u fun e u' => e = .returned (.int .i64 0) ∧ Rd u' pb B (some e9) ∧ But (fun b => b = pb) u u' := (by have h := rC_c (most := 1024) hR (rs_of lt_7); rw [show dC 1024 (some e7) = (0, some e9) from dC0 _] at h; exact h)
   refine Calls.mono hcall ?_
   rintro e u' ⟨rfl, h1, h2⟩
   refine ⟨_, rfl, ⟨?_, hM.then_ h2, fun h => ?_⟩, .inr fun d e => by cases e; rfl⟩
   ·rw [RF.upd_same]; exact h1
   ·rw [RF.upd_else _ _ (show (1 : Nat) ≠ 0 by decide)] at h ⊢
    obtain ⟨g, x1, x2, x3⟩ := hX h
    exact ⟨g, x1, x2, x3.but h2 (fun e => by have e : g = pb := e; have := HPB.out; have := HBl.out; omega)⟩
  ·intro s G u hC hk hw
   rw [show (execOp _ _).run Tryz.prog u = .ok (.enter 64 #[rdV pb, .int .i64 0, .func (.func 65) #[] #[]]) u by kernel_rfl]
   obtain ⟨hR, hM, hX⟩ := hC
   rw [hk] at hR
   have hR : Rd u pb B (some e9) := hR
   have hsz : B ≤ u.heap.size := Nat.le_trans HBl.out.1 hM.size
   have hcall : Calls Tryz.prog 64 #[rdV pb, .int .i64 0, .func (.func 65) #[] #[]] u fun e u' => e = .returned (.slice none 0 0) ∧ Rd u' pb B (some e9) ∧ But (fun b => b = pb) u u' := (rjoints0_c hR)
   refine Calls.mono hcall ?_
   rintro e u' ⟨rfl, h1, h2⟩
   refine ⟨_, rfl, ⟨?_, hM.then_ h2, fun h => ?_⟩, .inr fun d e => by cases e; rfl⟩
   ·rw [RF.upd_same]; exact h1
   ·rw [RF.upd_else _ _ (show (1 : Nat) ≠ 0 by decide)] at h ⊢
    obtain ⟨g, x1, x2, x3⟩ := hX h
    exact ⟨g, x1, x2, x3.but h2 (fun e => by have e : g = pb := e; have := HPB.out; have := HBl.out; omega)⟩
  ·intro s G u hC hk hw
   rw [show (execOp _ _).run Tryz.prog u = .ok (.enter 60 #[.pointer (some ⟨pb, 0, none⟩), .int .i64 4]) u by kernel_rfl]
   obtain ⟨hR, hM, hX⟩ := hC
   rw [hk] at hR
   have hR : Rd u pb B (some e9) := hR
   have hsz : B ≤ u.heap.size := Nat.le_trans HBl.out.1 hM.size
   have hcall : Calls Tryz.prog 60 #[.pointer (some ⟨pb, 0, none⟩), .int .i64 4] u fun e u' => e = .returned (.int .i64 0) ∧ Rd u' pb B (some e10) ∧ But (fun b => b = pb) u u' := (by have h := rN_c (m := 4) hR (rs_of lt_9) (by omega) (by omega); rw [show dN 4 (some e9) = (0, some e10) from dN_nb 4 (by omega) 0 (by omega) (by omega) _] at h; exact h)
   refine Calls.mono hcall ?_
   rintro e u' ⟨rfl, h1, h2⟩
   refine ⟨_, rfl, ⟨?_, hM.then_ h2, fun h => ?_⟩, .inr fun d e => by cases e; rfl⟩
   ·rw [RF.upd_same]; exact h1
   ·rw [RF.upd_else _ _ (show (1 : Nat) ≠ 0 by decide)] at h ⊢
    obtain ⟨g, x1, x2, x3⟩ := hX h
    exact ⟨g, x1, x2, x3.but h2 (fun e => by have e : g = pb := e; have := HPB.out; have := HBl.out; omega)⟩
  ·intro s G u hC hk hw
   rw [show (execOp _ _).run Tryz.prog u = .ok (.enter 66 #[rdV pb, .int .i64 0, .func (.func 67) #[] #[]]) u by kernel_rfl]
   obtain ⟨hR, hM, hX⟩ := hC
   rw [hk] at hR
   have hR : Rd u pb B (some e10) := hR
   have hsz : B ≤ u.heap.size := Nat.le_trans HBl.out.1 hM.size
   have hcall : Calls Tryz.prog 66 #[rdV pb, .int .i64 0, .func (.func 67) #[] #[]] u fun e u' => e = .returned (.slice none 0 0) ∧ Rd u' pb B (some e10) ∧ But (fun b => b = pb) u u' := (rcontacts0_c hR)
   refine Calls.mono hcall ?_
   rintro e u' ⟨rfl, h1, h2⟩
   refine ⟨_, rfl, ⟨?_, hM.then_ h2, fun h => ?_⟩, .inr fun d e => by cases e; rfl⟩
   ·rw [RF.upd_same]; exact h1
   ·rw [RF.upd_else _ _ (show (1 : Nat) ≠ 0 by decide)] at h ⊢
    obtain ⟨g, x1, x2, x3⟩ := hX h
    exact ⟨g, x1, x2, x3.but h2 (fun e => by have e : g = pb := e; have := HPB.out; have := HBl.out; omega)⟩
  ·intro s G u hC hk hw
   rw [show (execOp _ _).run Tryz.prog u = .ok (.value (.pointer (some ⟨u.heap.size, 0, none⟩))) (u.alloc (.cells #[.int .i64 0, .int .i64 0, .int .i64 0, .int .i64 0, .int .i64 0, .slice none 0 0, .slice none 0 0, .slice none 0 0] 56)) by kernel_rfl]
   obtain ⟨hR, hM, hX⟩ := hC
   have km : Made u.heap.size u (u.alloc (.cells #[.int .i64 0, .int .i64 0, .int .i64 0, .int .i64 0, .int .i64 0, .slice none 0 0, .slice none 0 0, .slice none 0 0] 56)) := (Made.rfl_ _ _).cells (Nat.le_refl _) _ _
   refine ⟨⟨?_, hM.via km, fun h => ⟨u.heap.size, ?_, hM.size, ?_⟩⟩, .inl rfl⟩
   ·rw [RF.upd_else _ _ (show (0 : Nat) ≠ 1 by decide)]; exact hR.kept km
   ·rfl
   ·rw [RF.upd_same, if_pos (by decide)]; exact has_new _ _ _
  ·intro s G u hC hk hw
   obtain ⟨hR, hM, hX⟩ := hC
   obtain ⟨g, x1, x2, x3⟩ := hX (by rw [hk]; exact Nat.le_refl 1)
   rw [hk, if_pos (by decide)] at x3
   have lu := x3.here
   have q0 : u.cell? ⟨g, 0, none⟩ = some (.int .i64 0) := x3.at_ 0
   have zz0 := x3.free 0
   have q1 : u.cell? ⟨g, 1, none⟩ = some (.int .i64 0) := x3.at_ 1
   have zz1 := x3.free 1
   have q2 : u.cell? ⟨g, 2, none⟩ = some (.int .i64 0) := x3.at_ 2
   have zz2 := x3.free 2
   have q3 : u.cell? ⟨g, 3, none⟩ = some (.int .i64 0) := x3.at_ 3
   have zz3 := x3.free 3
   have q4 : u.cell? ⟨g, 4, none⟩ = some (.int .i64 0) := x3.at_ 4
   have zz4 := x3.free 4
   have q5 : u.cell? ⟨g, 5, none⟩ = some (.slice none 0 0) := x3.at_ 5
   have zz5 := x3.free 5
   have q6 : u.cell? ⟨g, 6, none⟩ = some (.slice none 0 0) := x3.at_ 6
   have zz6 := x3.free 6
   have q7 : u.cell? ⟨g, 7, none⟩ = some (.slice none 0 0) := x3.at_ 7
   have zz7 := x3.free 7
   have x1 : G 28 = .pointer (some ⟨g, 0, none⟩) := x1
   rw [show (execOp _ _).run Tryz.prog u = .ok .skip ((((((((u.setCell ⟨g, 0, none⟩ (.int .i64 0)).setCell ⟨g, 1, none⟩ (.int .i64 1)).setCell ⟨g, 2, none⟩ (.int .i64 1)).setCell ⟨g, 3, none⟩ (.int .i64 0)).setCell ⟨g, 4, none⟩ (.int .i64 0)).setCell ⟨g, 5, none⟩ (.slice none 0 0)).setCell ⟨g, 6, none⟩ (.slice none 0 0)).setCell ⟨g, 7, none⟩ (.slice none 0 0)) by
    simp only [RF.AG, Act.put, List.setIfInBounds_toArray, List.set_cons_succ, List.set_cons_zero]
    rw [x1]
    go_simp]
   have kr : But (fun b => b = g) u ((((((((u.setCell ⟨g, 0, none⟩ (.int .i64 0)).setCell ⟨g, 1, none⟩ (.int .i64 1)).setCell ⟨g, 2, none⟩ (.int .i64 1)).setCell ⟨g, 3, none⟩ (.int .i64 0)).setCell ⟨g, 4, none⟩ (.int .i64 0)).setCell ⟨g, 5, none⟩ (.slice none 0 0)).setCell ⟨g, 6, none⟩ (.slice none 0 0)).setCell ⟨g, 7, none⟩ (.slice none 0 0)) := (((((((((But.rfl_ (fun b => b = g) _).put (p := ⟨g, 0, none⟩) (.inl rfl) _).put (p := ⟨g, 1, none⟩) (.inl rfl) _).put (p := ⟨g, 2, none⟩) (.inl rfl) _).put (p := ⟨g, 3, none⟩) (.inl rfl) _).put (p := ⟨g, 4, none⟩) (.inl rfl) _).put (p := ⟨g, 5, none⟩) (.inl rfl) _).put (p := ⟨g, 6, none⟩) (.inl rfl) _).put (p := ⟨g, 7, none⟩) (.inl rfl) _)
   refine ⟨rfl, ⟨?_, hM.then_' kr (fun b e => .inr (by have e : b = g := e; omega)), fun h => ⟨g, x1, x2, ?_⟩⟩⟩
   ·rw [RF.upd_else _ _ (show (0 : Nat) ≠ 1 by decide)]
    exact hR.but kr (fun b e => by have e : b = g := e; have := HBl.out; omega)
   ·rw [RF.upd_same, if_neg (by decide)]
    have h := (((((((x3.put 0 (.int .i64 0)).put 1 (.int .i64 1)).put 2 (.int .i64 1)).put 3 (.int .i64 0)).put 4 (.int .i64 0)).put 5 (.slice none 0 0)).put 6 (.slice none 0 0)).put 7 (.slice none 0 0)
    simp only [List.setIfInBounds_toArray, List.set_cons_succ, List.set_cons_zero] at h
    exact h
 case qc =>
  intro G u hu
  obtain ⟨hR, hM, hX⟩ := hu
  obtain ⟨g, x1, x2, x3⟩ := hX (show 1 ≤ 2 by decide)
  have x3 : Has u g 56 #[.int .i64 0, .int .i64 1, .int .i64 1, .int .i64 0, .int .i64 0, .slice none 0 0, .slice none 0 0, .slice none 0 0] := x3
  have HX3 := hid x3
  have x1 : G 28 = .pointer (some ⟨g, 0, none⟩) := x1
  have HRz : Hid (Rd u pb B (some e10)) := hR
  have HMz : Hid (Made W0.heap.size W0 u) := But.made_ HMW.out hM (by have := HBl.out; omega) (fun b e => by have e : b = pb := e; have := HP.out; omega)
  have HZu : Hid (Has u g2 56 #[.int .i64 0, .int .i64 0, .int .i64 0, .int .i64 0, .int .i64 0, .slice none 0 0, .slice none 0 0, .slice none 0 0]) := HZW.out.but hM (fun e => by have e : g2 = pb := e; have := HP.out; have := HBl.out; omega)
  have c4 : u.cell? ⟨B, 0, none⟩ = some (.pointer (some ⟨pb, 0, none⟩)) := hM.cell p0 (fun e => by have := HPB.out; have e : B = pb := e; omega)
  simp only [RF.AG, Act.put, List.setIfInBounds_toArray, List.set_cons_succ, List.set_cons_zero]
  rw [x1]
  have HDo := hid (rD_c HRz.out)
  have q0 : u.cell? ⟨g, 0, none⟩ = some (.int .i64 0) := HX3.out.at_ 0
  have q1 : u.cell? ⟨g, 1, none⟩ = some (.int .i64 1) := HX3.out.at_ 1
  have q2 : u.cell? ⟨g, 2, none⟩ = some (.int .i64 1) := HX3.out.at_ 2
  have q3 : u.cell? ⟨g, 3, none⟩ = some (.int .i64 0) := HX3.out.at_ 3
  have q4 : u.cell? ⟨g, 4, none⟩ = some (.int .i64 0) := HX3.out.at_ 4
  have q5 : u.cell? ⟨g, 5, none⟩ = some (.slice none 0 0) := HX3.out.at_ 5
  have q6 : u.cell? ⟨g, 6, none⟩ = some (.slice none 0 0) := HX3.out.at_ 6
  have q7 : u.cell? ⟨g, 7, none⟩ = some (.slice none 0 0) := HX3.out.at_ 7
  have HRight := hid (wright_c 0 1 1 0 0 none none none 0 0 0 0 0 0 (B := []) (J := []) (C := []) (w := u) true rfl (by omega) rfl (by omega) rfl (by omega) ⟨fun h => absurd h (by simp), fun h => absurd h (by simp), fun h => absurd h (by simp), fun b hb => (by cases hb), fun b hb => (by cases hb), fun b hb => (by cases hb)⟩ i0 i0 (iff_of_true rfl ⟨by omega, by unfold Inn; omega, by unfold Inn; omega, ⟨Nat.zero_le _, fun b hb => (by cases hb), ⟨by omega, by omega, List.Pairwise.nil, fun i hi => (by cases hi)⟩⟩, ⟨Nat.zero_le _, fun b hb => (by cases hb), ⟨by omega, by omega, List.Pairwise.nil, fun i hi => (by cases hi)⟩⟩, ⟨fun c hc => (by cases hc), List.Pairwise.nil⟩⟩))
  clear hR hM hX x1 x3 p0
  go_wp2_with fail
  refine HDo.out.mono ?_
  rintro e w4 ⟨rfl, rfl⟩
  go_wp2_with fail
  refine HRight.out.mono ?_
  rintro e w5 ⟨rfl, hM5⟩
  have HM5 : Hid (Made W0.heap.size W0 w5) := HMz.out.then_ (hM5.low HMz.out.1.size)
  have HX5 : Hid (Has w5 g 56 #[.int .i64 0, .int .i64 1, .int .i64 1, .int .i64 0, .int .i64 0, .slice none 0 0, .slice none 0 0, .slice none 0 0]) := HX3.out.stays hM5 HX3.out.here
  have HZ5 : Hid (Has w5 g2 56 #[.int .i64 0, .int .i64 0, .int .i64 0, .int .i64 0, .int .i64 0, .slice none 0 0, .slice none 0 0, .slice none 0 0]) := HZu.out.stays hM5 HZu.out.here
  clear hM5 q0 q1 q2 q3 q4 q5 q6 q7 c4
  go_wp2_with (first
   | refine wpList_load_row rfl 56 (.tmp 5) rfl g rfl 56 _ (0, 0) _ HX5.out Tryz.underlying56 rfl (by kernel_rfl) ?_
   | refine wpList_store_row rfl 56 (.tmp 2) (.tmp 47) rfl g2 #[.int .i64 0, .int .i64 1, .int .i64 1, .int .i64 0, .int .i64 0, .slice none 0 0, .slice none 0 0, .slice none 0 0] rfl rfl 56 _ HZ5.out (by kernel_rfl) rfl (by simp [Value.oneCell']) ?_)
  have hr := setRow_heap w5 g2 #[.int .i64 0, .int .i64 0, .int .i64 0, .int .i64 0, .int .i64 0, .slice none 0 0, .slice none 0 0, .slice none 0 0] #[.int .i64 0, .int .i64 1, .int .i64 1, .int .i64 0, .int .i64 0, .slice none 0 0, .slice none 0 0, .slice none 0 0] 56 (0, 0) HZ5.out
  have HRr : Has (w5.setRow g2 #[.int .i64 0, .int .i64 1, .int .i64 1, .int .i64 0, .int .i64 0, .slice none 0 0, .slice none 0 0, .slice none 0 0]) g2 56 #[.int .i64 0, .int .i64 1, .int .i64 1, .int .i64 0, .int .i64 0, .slice none 0 0, .slice none 0 0, .slice none 0 0] := hr
  have v0 : (w5.setRow g2 #[.int .i64 0, .int .i64 1, .int .i64 1, .int .i64 0, .int .i64 0, .slice none 0 0, .slice none 0 0, .slice none 0 0]).cell? ⟨g2, 0, none⟩ = some (.int .i64 0) := HRr.at_ 0
  have v1 : (w5.setRow g2 #[.int .i64 0, .int .i64 1, .int .i64 1, .int .i64 0, .int .i64 0, .slice none 0 0, .slice none 0 0, .slice none 0 0]).cell? ⟨g2, 1, none⟩ = some (.int .i64 1) := HRr.at_ 1
  have v2 : (w5.setRow g2 #[.int .i64 0, .int .i64 1, .int .i64 1, .int .i64 0, .int .i64 0, .slice none 0 0, .slice none 0 0, .slice none 0 0]).cell? ⟨g2, 2, none⟩ = some (.int .i64 1) := HRr.at_ 2
  have v3 : (w5.setRow g2 #[.int .i64 0, .int .i64 1, .int .i64 1, .int .i64 0, .int .i64 0, .slice none 0 0, .slice none 0 0, .slice none 0 0]).cell? ⟨g2, 3, none⟩ = some (.int .i64 0) := HRr.at_ 3
  have v4 : (w5.setRow g2 #[.int .i64 0, .int .i64 1, .int .i64 1, .int .i64 0, .int .i64 0, .slice none 0 0, .slice none 0 0, .slice none 0 0]).cell? ⟨g2, 4, none⟩ = some (.int .i64 0) := HRr.at_ 4
  have v5 : (w5.setRow g2 #[.int .i64 0, .int .i64 1, .int .i64 1, .int .i64 0, .int .i64 0, .slice none 0 0, .slice none 0 0, .slice none 0 0]).cell? ⟨g2, 5, none⟩ = some (.slice none 0 0) := HRr.at_ 5
  have v6 : (w5.setRow g2 #[.int .i64 0, .int .i64 1, .int .i64 1, .int .i64 0, .int .i64 0, .slice none 0 0, .slice none 0 0, .slice none 0 0]).cell? ⟨g2, 6, none⟩ = some (.slice none 0 0) := HRr.at_ 6
  have v7 : (w5.setRow g2 #[.int .i64 0, .int .i64 1, .int .i64 1, .int .i64 0, .int .i64 0, .slice none 0 0, .slice none 0 0, .slice none 0 0]).cell? ⟨g2, 7, none⟩ = some (.slice none 0 0) := HRr.at_ 7
  refine bodyPost_ret (v := .tuple #[wd0, .int .i64 0]) (by simp [results, Tryz.results23, go_sem, v0, v1, v2, v3, v4, v5, v6, v7]) rfl ⟨rfl, ?_⟩
  exact But.made_ (K0.out.then_ (HM5.out.low K0.out.1.size)) (But.row w5 g2 #[.int .i64 0, .int .i64 1, .int .i64 1, .int .i64 0, .int .i64 0, .slice none 0 0, .slice none 0 0, .slice none 0 0]) (by have := K0.out.1.size; have := HM5.out.1.size; omega) (fun b e => by have e : b = g2 := e; have := HG2.out; omega)
end Go.Proofs.YtgdcphmmehedoaaGreat.Fx