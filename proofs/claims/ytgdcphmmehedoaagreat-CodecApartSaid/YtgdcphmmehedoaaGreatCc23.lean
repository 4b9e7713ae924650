/- CoQ CoJ CoK CoLa CoM CoL1 CoL3 CoL CoN -/
import Derived.Test.YtgdcphmmehedoaaGreatCc22
set_option maxRecDepth 100000
set_option maxHeartbeats 64000000
/- Package codec: a world is written. -/
namespace Go.Proofs.YtgdcphmmehedoaaGreat.Fx
open Go.ChangeShapes Go.WideShapes Go.ChangeAt Go.RowKit
set_option linter.unusedVariables false
theorem bdB_len (b : Bd) : (bdB b).length ≤ 16 * b.n + 100 := by
 have h1 : (shB b.k b.r b.n b.f).length ≤ 16 * b.n + 9 := by
  unfold shB
  split
  ·simp only [List.length_append, nb_len]; omega
  ·split
   ·simp only [List.length_append, nb_len, vB_len]; omega
   ·simp only [List.length_append, nb_len, List.length_nil]; omega
 unfold bdB
 simp only [List.length_append, nb_len]; omega
theorem bdBs_len : ∀ (L : List Bd), (∀ o ∈ L, o.n ≤ 255) → (L.flatMap bdB).length ≤ 4180 * L.length
 | [], _ => Nat.le_refl _
 | o :: L, h => by
  have h1 := bdBs_len L (fun x hx => h x (List.mem_cons_of_mem _ hx))
  have h2 := bdB_len o
  have h3 := h o (List.mem_cons_self ..)
  rw [List.flatMap_cons, List.length_append, List.length_cons]
  omega
theorem cwbodies_c {pb n c m : Nat} {v : Value} {l : List Nat} {L : List Bd} {ao : Option Addr} {w : World} (hW : Wv w pb v l) (hL : ∀ u, Made pb w u → LsT encB 11 u ao L) (hIs : ∀ b ∈ L, BdI b) (hS : ∀ b ∈ L, b.n ≤ 255) (hLow : ∀ b ∈ L, 0 < b.n → ∀ o off s, b.ao = some ⟨o, off, s⟩ → o < pb) (hSl : ∀ u, Made pb w u → ∀ b ∈ L, Sl u b.ao b.n b.f) (hn : L.length = n) (hm : m ≤ 8) (hl : l.length + 4180 * n + 300000 ≤ 549755813888) :
  Calls Tryz.prog 49 #[.pointer (some ⟨pb, 0, none⟩), .int .i64 (m : Nat), .slice ao n c, .func (.func 50) #[] #[]] w fun e w' => e = .returned (.tuple #[]) ∧ ∃ v', Wv w' pb v' (l ++ nb m (n : Nat) ++ L.flatMap bdB) ∧ Wc pb w w' v v' := by
 have HW := hid hW
 have HN := hid hn
 have HL := hid hL
 have HIs := hid hIs
 have H5 := hid hS
 have HLw := hid hLow
 have HSl := hid hSl
 have HC := hid (wnum_c (m := m) (X := (n : Nat)) hW hm (by omega) (by omega) (by omega))
 have hnn : n ≤ 549755813888 := by omega
 have HLl := hid hl
 clear hW hn hL hIs hl hS hLow hSl
 go_enter Tryz.func49, Tryz.ntmps49
 go_wp2_with fail
 refine HC.out.mono ?_
 rintro e w1 ⟨rfl, v1, hW1, hC1⟩
 have HW1 := hid hW1
 have HC1 := hid hC1
 clear hW1 hC1
 go_wp2_with fail
 go_loopg [19] n (fun gg s19 wx => ∃ (k : Nat) (v2 : Value), k + gg = n ∧ s19 = .int .i64 (k : Nat) ∧ Hid (Wv wx pb v2 (l ++ nb m (n : Nat) ++ (L.take k).flatMap bdB)) ∧ Hid (Wc pb w wx v v2))
 case atStart => exact ⟨0, v1, by omega, by first | rfl | trivial, by rw [show (L.take 0).flatMap bdB = [] from rfl, List.append_nil]; exact HW1.out, HC1.out⟩
 case round =>
  obtain ⟨k, v2, hk, rfl, HW2, HC2⟩ := hrel
  by_cases hlt : k < n
  ·obtain ⟨a, ea⟩ : ∃ a, L[k]? = some a := ⟨_, List.getElem?_eq_getElem (by rw [HN.out]; omega)⟩
   have hmd := Wc.low HW.out HC2.out
   obtain ⟨b, off, rfl, hbl, hLB⟩ := HL.out wr hmd (by rw [HN.out]; omega)
   have hmem := List.mem_of_getElem? ea
   have HI := hid (HIs.out a hmem)
   have HLow := hid (HLw.out a hmem)
   have HA5 := hid (H5.out a hmem)
   have HS := hid (HSl.out wr hmd a hmem)
   have HA := hid ea
   have hcells := (hLB k _ ea).b11
   clear ea hLB hmem hmd
   obtain ⟨x0, x1, x2, x3, x4, x5, x6, x7, x8, x9, xo, xn, xc, xf⟩ := a
   obtain ⟨a0, a1, a2, a3, a4, a5, a6, a7, a8, a9, a10⟩ := hcells
   simp only [] at a0 a1 a2 a3 a4 a5 a6 a7 a8 a9 a10
   obtain ⟨W, eW⟩ : ∃ W, W = wr.alloc (.cells #[.int .i64 x0, .int .i64 x1, .int .i64 x2, .int .i64 x3, .int .i64 x4, .int .i64 x5, .int .i64 x6, .int .i64 x7, .int .i64 x8, .int .i64 x9, .slice xo xn xc] 35) := ⟨_, rfl⟩
   have KW : Hid (Made wr.heap.size wr W) := by unfold Hid; rw [eW]; exact (Made.rfl_ _ _).cells (Nat.le_refl _) _ _
   obtain ⟨g1, eg1⟩ : ∃ g, wr.heap.size = g := ⟨_, rfl⟩
   have HB : Hid (Has W g1 35 #[.int .i64 x0, .int .i64 x1, .int .i64 x2, .int .i64 x3, .int .i64 x4, .int .i64 x5, .int .i64 x6, .int .i64 x7, .int .i64 x8, .int .i64 x9, .slice xo xn xc]) := by unfold Hid; rw [eW, ← eg1]; exact has_new _ _ _
   have b0 : W.cell? ⟨g1, 0, none⟩ = some (.int .i64 x0) := HB.out.at_ 0
   have b1 : W.cell? ⟨g1, 1, none⟩ = some (.int .i64 x1) := HB.out.at_ 1
   have b2 : W.cell? ⟨g1, 2, none⟩ = some (.int .i64 x2) := HB.out.at_ 2
   have b3 : W.cell? ⟨g1, 3, none⟩ = some (.int .i64 x3) := HB.out.at_ 3
   have b4 : W.cell? ⟨g1, 4, none⟩ = some (.int .i64 x4) := HB.out.at_ 4
   have b5 : W.cell? ⟨g1, 5, none⟩ = some (.int .i64 x5) := HB.out.at_ 5
   have b6 : W.cell? ⟨g1, 6, none⟩ = some (.int .i64 x6) := HB.out.at_ 6
   have b7 : W.cell? ⟨g1, 7, none⟩ = some (.int .i64 x7) := HB.out.at_ 7
   have b8 : W.cell? ⟨g1, 8, none⟩ = some (.int .i64 x8) := HB.out.at_ 8
   have b9 : W.cell? ⟨g1, 9, none⟩ = some (.int .i64 x9) := HB.out.at_ 9
   have b10 : W.cell? ⟨g1, 10, none⟩ = some (.slice xo xn xc) := HB.out.at_ 10
   have hll : (l ++ nb m (n : Nat) ++ (L.take k).flatMap bdB).length + 200 + 16 * 255 ≤ 549755813888 := by
    rw [List.length_append, List.length_append, nb_len]
    have h := bdBs_len (L.take k) (fun o ho => H5.out o (List.mem_of_mem_take ho))
    have h2 : (L.take k).length ≤ n := by rw [List.length_take]; omega
    have h3 := HLl.out
    have h4 : 4180 * (L.take k).length ≤ 4180 * n := Nat.mul_le_mul_left _ h2
    omega
   have HCC := hid (cwbody_c (⟨x0, x1, x2, x3, x4, x5, x6, x7, x8, x9, xo, xn, xc, xf⟩ : Bd) (HW2.out.kept KW.out) HI.out (Sl.kept HS.out KW.out) (fun hn b off s e => HW2.out.off (.inl (HLow.out hn b off s e))) (by have h := HA5.out; simp only [] at h ⊢; omega))
   clear hll
   go_upto_region 4 with fail
   rw [← eW]
   clear eW
   try rw [eg1]
   clear eg1
   go_wp2_with fail
   refine HCC.out.mono ?_
   rintro e w' ⟨rfl, v3, hW3, hC3⟩
   have HW3 : Hid (Wv w' pb v3 (l ++ nb m (n : Nat) ++ (L.take (k + 1)).flatMap bdB)) := by
    unfold Hid
    have e1 : L.take (k + 1) = L.take k ++ [(⟨x0, x1, x2, x3, x4, x5, x6, x7, x8, x9, xo, xn, xc, xf⟩ : Bd)] := by rw [List.take_add_one, HA.out]; rfl
    rw [e1, List.flatMap_append, ← List.append_assoc]
    simpa using hW3
   have HC3 := hid ((HC2.out.made KW.out).then_ hC3)
   clear hW3 hC3
   go_wp2_with fail
   go_roundg (n - (k + 1))
   case measure => omega
   case rel => exact ⟨k + 1, v3, by omega, by go_num, HW3.out, HC3.out⟩
  ·have e : k = n := by omega
   go_wp2_with fail
   refine cvoid_end rfl rfl ⟨rfl, v2, ?_, HC2.out⟩
   have h := HW2.out
   rw [List.take_of_length_le (by rw [HN.out]; omega)] at h
   exact h
theorem jtB_len (b : Jt) : (jtB b).length ≤ 64 := by
 unfold jtB
 simp only [List.length_append, nb_len]; omega
theorem jtBs_len : ∀ (L : List Jt), (L.flatMap jtB).length ≤ 64 * L.length
 | [] => Nat.le_refl _
 | o :: L => by
  have h1 := jtBs_len L
  have h2 := jtB_len o
  rw [List.flatMap_cons, List.length_append, List.length_cons]
  omega
theorem cwjoints_c {pb n c m : Nat} {v : Value} {l : List Nat} {L : List Jt} {ao : Option Addr} {w : World} (hW : Wv w pb v l) (hL : ∀ u, Made pb w u → LsT encJ 8 u ao L) (hIs : ∀ b ∈ L, JtI b) (hn : L.length = n) (hm : m ≤ 8) (hl : l.length + 64 * n + 300000 ≤ 549755813888) :
  Calls Tryz.prog 51 #[.pointer (some ⟨pb, 0, none⟩), .int .i64 (m : Nat), .slice ao n c, .func (.func 52) #[] #[]] w fun e w' => e = .returned (.tuple #[]) ∧ ∃ v', Wv w' pb v' (l ++ nb m (n : Nat) ++ L.flatMap jtB) ∧ Wc pb w w' v v' := by
 have HW := hid hW
 have HN := hid hn
 have HL := hid hL
 have HIs := hid hIs
 have HC := hid (wnum_c (m := m) (X := (n : Nat)) hW hm (by omega) (by omega) (by omega))
 have hnn : n ≤ 549755813888 := by omega
 have HLl := hid hl
 clear hW hn hL hIs hl
 go_enter Tryz.func51, Tryz.ntmps51
 go_wp2_with fail
 refine HC.out.mono ?_
 rintro e w1 ⟨rfl, v1, hW1, hC1⟩
 have HW1 := hid hW1
 have HC1 := hid hC1
 clear hW1 hC1
 go_wp2_with fail
 go_loopg [19] n (fun gg s19 wx => ∃ (k : Nat) (v2 : Value), k + gg = n ∧ s19 = .int .i64 (k : Nat) ∧ Hid (Wv wx pb v2 (l ++ nb m (n : Nat) ++ (L.take k).flatMap jtB)) ∧ Hid (Wc pb w wx v v2))
 case atStart => exact ⟨0, v1, by omega, by first | rfl | trivial, by rw [show (L.take 0).flatMap jtB = [] from rfl, List.append_nil]; exact HW1.out, HC1.out⟩
 case round =>
  obtain ⟨k, v2, hk, rfl, HW2, HC2⟩ := hrel
  by_cases hlt : k < n
  ·obtain ⟨a, ea⟩ : ∃ a, L[k]? = some a := ⟨_, List.getElem?_eq_getElem (by rw [HN.out]; omega)⟩
   have hmd := Wc.low HW.out HC2.out
   obtain ⟨b, off, rfl, hbl, hLB⟩ := HL.out wr hmd (by rw [HN.out]; omega)
   have hmem := List.mem_of_getElem? ea
   have HI := hid (HIs.out a hmem)
   have HA := hid ea
   have hcells := (hLB k _ ea).j8
   clear ea hLB hmem hmd
   obtain ⟨x0, x1, x2, x3, x4, x5, x6, x7⟩ := a
   obtain ⟨a0, a1, a2, a3, a4, a5, a6, a7⟩ := hcells
   simp only [] at a0 a1 a2 a3 a4 a5 a6 a7
   obtain ⟨W, eW⟩ : ∃ W, W = wr.alloc (.cells #[.int .i64 x0, .int .i64 x1, .int .i64 x2, .int .i64 x3, .int .i64 x4, .int .i64 x5, .int .i64 x6, .int .i64 x7] 102) := ⟨_, rfl⟩
   have KW : Hid (Made wr.heap.size wr W) := by unfold Hid; rw [eW]; exact (Made.rfl_ _ _).cells (Nat.le_refl _) _ _
   obtain ⟨g1, eg1⟩ : ∃ g, wr.heap.size = g := ⟨_, rfl⟩
   have HB : Hid (Has W g1 102 #[.int .i64 x0, .int .i64 x1, .int .i64 x2, .int .i64 x3, .int .i64 x4, .int .i64 x5, .int .i64 x6, .int .i64 x7]) := by unfold Hid; rw [eW, ← eg1]; exact has_new _ _ _
   have b0 : W.cell? ⟨g1, 0, none⟩ = some (.int .i64 x0) := HB.out.at_ 0
   have b1 : W.cell? ⟨g1, 1, none⟩ = some (.int .i64 x1) := HB.out.at_ 1
   have b2 : W.cell? ⟨g1, 2, none⟩ = some (.int .i64 x2) := HB.out.at_ 2
   have b3 : W.cell? ⟨g1, 3, none⟩ = some (.int .i64 x3) := HB.out.at_ 3
   have b4 : W.cell? ⟨g1, 4, none⟩ = some (.int .i64 x4) := HB.out.at_ 4
   have b5 : W.cell? ⟨g1, 5, none⟩ = some (.int .i64 x5) := HB.out.at_ 5
   have b6 : W.cell? ⟨g1, 6, none⟩ = some (.int .i64 x6) := HB.out.at_ 6
   have b7 : W.cell? ⟨g1, 7, none⟩ = some (.int .i64 x7) := HB.out.at_ 7
   have hll : (l ++ nb m (n : Nat) ++ (L.take k).flatMap jtB).length + 200 + 16 * 255 ≤ 549755813888 := by
    rw [List.length_append, List.length_append, nb_len]
    have h := jtBs_len (L.take k)
    have h2 : (L.take k).length ≤ n := by rw [List.length_take]; omega
    have h3 := HLl.out
    have h4 : 64 * (L.take k).length ≤ 64 * n := Nat.mul_le_mul_left _ h2
    omega
   have HCC := hid (cwjoint_c (⟨x0, x1, x2, x3, x4, x5, x6, x7⟩ : Jt) (HW2.out.kept KW.out) HI.out (by omega))
   clear hll
   go_upto_region 4 with fail
   rw [← eW]
   clear eW
   try rw [eg1]
   clear eg1
   go_wp2_with fail
   refine HCC.out.mono ?_
   rintro e w' ⟨rfl, v3, hW3, hC3⟩
   have HW3 : Hid (Wv w' pb v3 (l ++ nb m (n : Nat) ++ (L.take (k + 1)).flatMap jtB)) := by
    unfold Hid
    have e1 : L.take (k + 1) = L.take k ++ [(⟨x0, x1, x2, x3, x4, x5, x6, x7⟩ : Jt)] := by rw [List.take_add_one, HA.out]; rfl
    rw [e1, List.flatMap_append, ← List.append_assoc]
    simpa using hW3
   have HC3 := hid ((HC2.out.made KW.out).then_ hC3)
   clear hW3 hC3
   go_wp2_with fail
   go_roundg (n - (k + 1))
   case measure => omega
   case rel => exact ⟨k + 1, v3, by omega, by go_num, HW3.out, HC3.out⟩
  ·have e : k = n := by omega
   go_wp2_with fail
   refine cvoid_end rfl rfl ⟨rfl, v2, ?_, HC2.out⟩
   have h := HW2.out
   rw [List.take_of_length_le (by rw [HN.out]; omega)] at h
   exact h
theorem ctB_len (b : Ct) : (ctB b).length ≤ 64 := by
 unfold ctB
 simp only [List.length_append, nb_len]; omega
theorem ctBs_len : ∀ (L : List Ct), (L.flatMap ctB).length ≤ 64 * L.length
 | [] => Nat.le_refl _
 | o :: L => by
  have h1 := ctBs_len L
  have h2 := ctB_len o
  rw [List.flatMap_cons, List.length_append, List.length_cons]
  omega
theorem cwcontacts_c {pb n c m : Nat} {v : Value} {l : List Nat} {L : List Ct} {ao : Option Addr} {w : World} (hW : Wv w pb v l) (hL : ∀ u, Made pb w u → LsT encC 5 u ao L) (hIs : ∀ b ∈ L, CtI b) (hn : L.length = n) (hm : m ≤ 8) (hl : l.length + 64 * n + 300000 ≤ 549755813888) :
  Calls Tryz.prog 53 #[.pointer (some ⟨pb, 0, none⟩), .int .i64 (m : Nat), .slice ao n c, .func (.func 54) #[] #[]] w fun e w' => e = .returned (.tuple #[]) ∧ ∃ v', Wv w' pb v' (l ++ nb m (n : Nat) ++ L.flatMap ctB) ∧ Wc pb w w' v v' := by
 have HW := hid hW
 have HN := hid hn
 have HL := hid hL
 have HIs := hid hIs
 have HC := hid (wnum_c (m := m) (X := (n : Nat)) hW hm (by omega) (by omega) (by omega))
 have hnn : n ≤ 549755813888 := by omega
 have HLl := hid hl
 clear hW hn hL hIs hl
 go_enter Tryz.func53, Tryz.ntmps53
 go_wp2_with fail
 refine HC.out.mono ?_
 rintro e w1 ⟨rfl, v1, hW1, hC1⟩
 have HW1 := hid hW1
 have HC1 := hid hC1
 clear hW1 hC1
 go_wp2_with fail
 go_loopg [19] n (fun gg s19 wx => ∃ (k : Nat) (v2 : Value), k + gg = n ∧ s19 = .int .i64 (k : Nat) ∧ Hid (Wv wx pb v2 (l ++ nb m (n : Nat) ++ (L.take k).flatMap ctB)) ∧ Hid (Wc pb w wx v v2))
 case atStart => exact ⟨0, v1, by omega, by first | rfl | trivial, by rw [show (L.take 0).flatMap ctB = [] from rfl, List.append_nil]; exact HW1.out, HC1.out⟩
 case round =>
  obtain ⟨k, v2, hk, rfl, HW2, HC2⟩ := hrel
  by_cases hlt : k < n
  ·obtain ⟨a, ea⟩ : ∃ a, L[k]? = some a := ⟨_, List.getElem?_eq_getElem (by rw [HN.out]; omega)⟩
   have hmd := Wc.low HW.out HC2.out
   obtain ⟨b, off, rfl, hbl, hLB⟩ := HL.out wr hmd (by rw [HN.out]; omega)
   have hmem := List.mem_of_getElem? ea
   have HI := hid (HIs.out a hmem)
   have HA := hid ea
   have hcells := (hLB k _ ea).c5
   clear ea hLB hmem hmd
   obtain ⟨x0, x1, x2, x3, x4⟩ := a
   obtain ⟨a0, a1, a2, a3, a4⟩ := hcells
   simp only [] at a0 a1 a2 a3 a4
   obtain ⟨W, eW⟩ : ∃ W, W = wr.alloc (.cells #[.int .i64 x0, .int .i64 x1, .int .i64 x2, .int .i64 x3, .int .i64 x4] 105) := ⟨_, rfl⟩
   have KW : Hid (Made wr.heap.size wr W) := by unfold Hid; rw [eW]; exact (Made.rfl_ _ _).cells (Nat.le_refl _) _ _
   obtain ⟨g1, eg1⟩ : ∃ g, wr.heap.size = g := ⟨_, rfl⟩
   have HB : Hid (Has W g1 105 #[.int .i64 x0, .int .i64 x1, .int .i64 x2, .int .i64 x3, .int .i64 x4]) := by unfold Hid; rw [eW, ← eg1]; exact has_new _ _ _
   have b0 : W.cell? ⟨g1, 0, none⟩ = some (.int .i64 x0) := HB.out.at_ 0
   have b1 : W.cell? ⟨g1, 1, none⟩ = some (.int .i64 x1) := HB.out.at_ 1
   have b2 : W.cell? ⟨g1, 2, none⟩ = some (.int .i64 x2) := HB.out.at_ 2
   have b3 : W.cell? ⟨g1, 3, none⟩ = some (.int .i64 x3) := HB.out.at_ 3
   have b4 : W.cell? ⟨g1, 4, none⟩ = some (.int .i64 x4) := HB.out.at_ 4
   have hll : (l ++ nb m (n : Nat) ++ (L.take k).flatMap ctB).length + 200 + 16 * 255 ≤ 549755813888 := by
    rw [List.length_append, List.length_append, nb_len]
    have h := ctBs_len (L.take k)
    have h2 : (L.take k).length ≤ n := by rw [List.length_take]; omega
    have h3 := HLl.out
    have h4 : 64 * (L.take k).length ≤ 64 * n := Nat.mul_le_mul_left _ h2
    omega
   have HCC := hid (cwcontact_c (⟨x0, x1, x2, x3, x4⟩ : Ct) (HW2.out.kept KW.out) HI.out (by omega))
   clear hll
   go_upto_region 4 with fail
   rw [← eW]
   clear eW
   try rw [eg1]
   clear eg1
   go_wp2_with fail
   refine HCC.out.mono ?_
   rintro e w' ⟨rfl, v3, hW3, hC3⟩
   have HW3 : Hid (Wv w' pb v3 (l ++ nb m (n : Nat) ++ (L.take (k + 1)).flatMap ctB)) := by
    unfold Hid
    have e1 : L.take (k + 1) = L.take k ++ [(⟨x0, x1, x2, x3, x4⟩ : Ct)] := by rw [List.take_add_one, HA.out]; rfl
    rw [e1, List.flatMap_append, ← List.append_assoc]
    simpa using hW3
   have HC3 := hid ((HC2.out.made KW.out).then_ hC3)
   clear hW3 hC3
   go_wp2_with fail
   go_roundg (n - (k + 1))
   case measure => omega
   case rel => exact ⟨k + 1, v3, by omega, by go_num, HW3.out, HC3.out⟩
  ·have e : k = n := by omega
   go_wp2_with fail
   refine cvoid_end rfl rfl ⟨rfl, v2, ?_, HC2.out⟩
   have h := HW2.out
   rw [List.take_of_length_le (by rw [HN.out]; omega)] at h
   exact h
def wdB (tk nbd nj gx gy : Int) (B : List Bd) (J : List Jt) (C : List Ct) : List Nat := nb 8 tk ++ nb 8 nbd ++ nb 8 nj ++ (nb 8 gx ++ nb 8 gy) ++ nb 2 (B.length : Nat) ++ B.flatMap bdB ++ nb 2 (J.length : Nat) ++ J.flatMap jtB ++ nb 4 (C.length : Nat) ++ C.flatMap ctB
theorem cworld_c {tk nbd nj gx gy : Int} {ob oj oc : Option Addr} {nB nJ nC cb cj cc : Nat} {B : List Bd} {J : List Jt} {C : List Ct} {w : World} (hA : WdAt w ob B oj J oc C) (hn : B.length = nB ∧ J.length = nJ ∧ C.length = nC) (hI : I64 tk ∧ I64 nbd ∧ I64 nj ∧ I64 gx ∧ I64 gy) (h5 : ∀ b ∈ B, b.n ≤ 255) (hmB : nB ≤ 1048576) (hmJ : nJ ≤ 1048576) (hmC : nC ≤ 1048576) :
  Calls Tryz.prog 17 #[wdV tk nbd nj gx gy (.slice ob nB cb) (.slice oj nJ cj) (.slice oc nC cc)] w fun e w' => ∃ ao' m c', e = .returned (.slice ao' m c') ∧ (wdB tk nbd nj gx gy B J C).length = m ∧ m ≤ 17179869184 ∧ m ≤ c' ∧ OB w' w.heap.size (.slice ao' m c') m (gl (wdB tk nbd nj gx gy B J C)) ∧ Made w.heap.size w w' := by
 have HA := hid hA
 have HN := hid hn
 have HI := hid hI
 have H5 := hid h5
 obtain ⟨W, eW⟩ : ∃ W, W = (w.alloc (.cells #[.int .i64 tk, .int .i64 nbd, .int .i64 nj, .int .i64 gx, .int .i64 gy, .slice ob nB cb, .slice oj nJ cj, .slice oc nC cc] 56)).alloc (.cells #[Value.slice none 0 0] 80) := ⟨_, rfl⟩
 obtain ⟨W0, eW0⟩ : ∃ W, W = w.alloc (.cells #[.int .i64 tk, .int .i64 nbd, .int .i64 nj, .int .i64 gx, .int .i64 gy, .slice ob nB cb, .slice oj nJ cj, .slice oc nC cc] 56) := ⟨_, rfl⟩
 have K0 : Made w.heap.size w W0 := by rw [eW0]; exact (Made.rfl_ _ _).cells (Nat.le_refl _) _ _
 have eW1 : W = W0.alloc (.cells #[Value.slice none 0 0] 80) := by rw [eW, eW0]
 have K1 : Made W0.heap.size W0 W := by rw [eW1]; exact (Made.rfl_ _ _).cells (Nat.le_refl _) _ _
 have KW := hid (K0.then_ (K1.low K0.1.size))
 obtain ⟨g1, eg1⟩ : ∃ g, w.heap.size = g := ⟨_, rfl⟩
 obtain ⟨pb, epb⟩ : ∃ g, W0.heap.size = g := ⟨_, rfl⟩
 have hpb1 : pb = g1 + 1 := by rw [← epb, eW0, ← eg1]; simp
 have epb' : (w.alloc (.cells #[.int .i64 tk, .int .i64 nbd, .int .i64 nj, .int .i64 gx, .int .i64 gy, .slice ob nB cb, .slice oj nJ cj, .slice oc nC cc] 56)).heap.size = pb := by rw [← eW0]; exact epb
 have HB : Hid (Has W g1 56 #[.int .i64 tk, .int .i64 nbd, .int .i64 nj, .int .i64 gx, .int .i64 gy, .slice ob nB cb, .slice oj nJ cj, .slice oc nC cc]) := by unfold Hid; rw [eW1]; refine Has.more ?_ _; rw [eW0, ← eg1]; exact has_new _ _ _
 have HW1 : Hid (Wv W pb (.slice none 0 0) []) := by unfold Hid; rw [eW1, ← epb]; exact Wv.new _ _
 have HPB := hid hpb1
 have HG1 := hid eg1
 have HG : Hid (¬ OwnW pb (.slice none 0 0) g1) := HW1.out.off (.inl (by omega))
 have HLw : Hid (∀ u, Made pb W u → WdAt u ob B oj J oc C) := fun u k => HA.out.kept (KW.out.then_ (k.low (by omega)))
 have e0 : W.cell? ⟨g1, 0, none⟩ = some (.int .i64 tk) := HB.out.at_ 0
 have e1 : W.cell? ⟨g1, 1, none⟩ = some (.int .i64 nbd) := HB.out.at_ 1
 have e2 : W.cell? ⟨g1, 2, none⟩ = some (.int .i64 nj) := HB.out.at_ 2
 have e3 : W.cell? ⟨g1, 3, none⟩ = some (.int .i64 gx) := HB.out.at_ 3
 have e4 : W.cell? ⟨g1, 4, none⟩ = some (.int .i64 gy) := HB.out.at_ 4
 have HLwB : Hid (∀ b ∈ B, 0 < b.n → ∀ o off s, b.ao = some ⟨o, off, s⟩ → o < pb) := fun b hb hn o off s e => by
  obtain ⟨b', off', e', hp⟩ := (HA.out.sB b hb).1 hn
  rw [e] at e'
  cases e'
  have h := World.block_lt_of_cell? _ _ (hp 0 hn).1
  have h : o < w.heap.size := h
  omega
 clear hA hn hI h5 K0 K1 eW1 eW0 epb hpb1
 go_enter Tryz.func17, Tryz.ntmps17
 go_upto_region 2 with fail
 first | rw [← eW] | (rw [eg1, epb'] ; rw [← eW])
 clear eW
 try rw [epb']
 clear epb'
 try rw [eg1]
 clear eg1
 refine RF.reg_flow (CW W pb (.slice none 0 0) [([] : List Nat), [] ++ nb 8 tk, [] ++ nb 8 tk ++ nb 8 nbd, [] ++ nb 8 tk ++ nb 8 nbd ++ nb 8 nj, [] ++ nb 8 tk ++ nb 8 nbd ++ nb 8 nj ++ vB (c1 gx gy) 1] [⟨12, 28, 1, #[.int .i64 gx, .int .i64 gy]⟩]) [[3, 6, 9, 13], [12]] [(12, 16)] [0, 1, 2, 4, 5, 7, 8, 10, 11] [(7, .pointer (some ⟨pb, 0, none⟩)), (10, .pointer (some ⟨pb, 0, none⟩)), (13, .pointer (some ⟨pb, 0, none⟩)), (17, .pointer (some ⟨pb, 0, none⟩))] 29 (by kernel_rfl) (CW.start HW1.out) (by kernel_rfl) rfl (by kernel_rfl) (by kernel_rfl) ?_
 apply Exists.intro
 refine ⟨?q1a, ?q1b, ?q1c⟩
 case q1a =>
  intro s G Ty hT f hf
  have z0 := CW.reads hf e0 HG.out
  have z1 := CW.reads hf e1 HG.out
  have z2 := CW.reads hf e2 HG.out
  have z3 := CW.reads hf e3 HG.out
  have z4 := CW.reads hf e4 HG.out
  clear hf
  simp only [RF.putF, Act.put, List.setIfInBounds_toArray, List.set_cons_succ, List.set_cons_zero]
  change wpQuiet _ _ _ _ [_, _, _, _, _, _, _, _, _] _
  repeat (go_big_quiet_step (fail))
  exact wpQuiet_nil rfl
 case q1b =>
  refine ⟨⟨?_, ?_, ?_, ?_, trivial⟩, ⟨?_, trivial⟩, trivial⟩
  ·intro s G u hC hk hw
   rw [show (execOp _ _).run Tryz.prog u = .ok (.enter 19 #[.pointer (some ⟨pb, 0, none⟩), .int .i64 8, .int .i64 tk]) u by kernel_rfl]
   refine CW.call hC hk rfl (fun d e => by cases e; rfl) fun v hv hc ha => ?_
   refine (wnum_c (m := 8) hv (by omega) (by show List.length (([] : List Nat))  ≤ _; have e0 : ([] : List Nat).length = 0 := rfl; omega) (HI.out.1.1) (HI.out.1.2)).mono ?_
   rintro e u' ⟨rfl, v', h1, h2⟩
   exact ⟨rfl, v', h1, h2⟩
  ·intro s G u hC hk hw
   rw [show (execOp _ _).run Tryz.prog u = .ok (.enter 19 #[.pointer (some ⟨pb, 0, none⟩), .int .i64 8, .int .i64 nbd]) u by kernel_rfl]
   refine CW.call hC hk rfl (fun d e => by cases e; rfl) fun v hv hc ha => ?_
   refine (wnum_c (m := 8) hv (by omega) (by show List.length ([] ++ nb 8 tk)  ≤ _; have e0 : ([] : List Nat).length = 0 := rfl; simp only [List.length_append, nb_len]; omega) (HI.out.2.1.1) (HI.out.2.1.2)).mono ?_
   rintro e u' ⟨rfl, v', h1, h2⟩
   exact ⟨rfl, v', h1, h2⟩
  ·intro s G u hC hk hw
   rw [show (execOp _ _).run Tryz.prog u = .ok (.enter 19 #[.pointer (some ⟨pb, 0, none⟩), .int .i64 8, .int .i64 nj]) u by kernel_rfl]
   refine CW.call hC hk rfl (fun d e => by cases e; rfl) fun v hv hc ha => ?_
   refine (wnum_c (m := 8) hv (by omega) (by show List.length ([] ++ nb 8 tk ++ nb 8 nbd)  ≤ _; have e0 : ([] : List Nat).length = 0 := rfl; simp only [List.length_append, nb_len]; omega) (HI.out.2.2.1.1) (HI.out.2.2.1.2)).mono ?_
   rintro e u' ⟨rfl, v', h1, h2⟩
   exact ⟨rfl, v', h1, h2⟩
  ·intro s G u hC hk hw
   rw [show (execOp _ _).run Tryz.prog u = .ok (.enter 20 #[.pointer (some ⟨pb, 0, none⟩), G 12]) u by kernel_rfl]
   refine CW.call hC hk rfl (fun d e => by cases e; rfl) fun v hv hc ha => ?_
   obtain ⟨g, eg, hg, og⟩ := ha 0 _ rfl (hw 1 0 12 rfl (by kernel_rfl))
   rw [show G 12 = _ from eg]
   refine (wv_c (n := 1) (c := 1) hv (sl1 hg) (fun _ => offs_of og (by omega)) (cin_c1 HI.out.2.2.2.1 HI.out.2.2.2.2) (by show List.length ([] ++ nb 8 tk ++ nb 8 nbd ++ nb 8 nj) + 16 * 1 ≤ _; have e0 : ([] : List Nat).length = 0 := rfl; simp only [List.length_append, nb_len]; omega)).mono ?_
   rintro e u' ⟨rfl, v', h1, h2⟩
   exact ⟨rfl, v', h1, h2⟩
  ·intro s G u hC hk hw
   rw [show (execOp _ _).run Tryz.prog u = .ok (.value (.slice (some ⟨u.heap.size, 0, none⟩) 1 1)) (u.alloc (.cells #[.int .i64 gx, .int .i64 gy] 28)) by kernel_rfl]
   exact CW.make (i := 0) hC _ rfl rfl (fun i' a' h hne => by
    match i', h with
    | 0, h => exact absurd rfl hne
    | n + 1, h => simp at h)
 case q1c =>
  intro G u2 hu
  obtain ⟨v2, hv2, hc2, _⟩ := hu
  have HV2 : Hid (Wv u2 pb v2 ([] ++ nb 8 tk ++ nb 8 nbd ++ nb 8 nj ++ vB (c1 gx gy) 1)) := hv2
  have HC2 := hid hc2
  have f5 : u2.cell? ⟨g1, 5, none⟩ = some (.slice ob nB cb) := hc2.but.cell (HB.out.at_ 5) HG.out
  have HM2 := hid (Wc.low HW1.out hc2)
  have hlen : Hid (([] ++ nb 8 tk ++ nb 8 nbd ++ nb 8 nj ++ vB (c1 gx gy) 1).length ≤ 100) := by unfold Hid; simp only [List.length_append, List.length_nil, nb_len, vB_len]; omega
  have HCb := hid (cwbodies_c (m := 2) (c := cb) HV2.out (fun u k => (HLw.out u (HM2.out.then_ k)).lB) (fun b hb => (HA.out.sB b hb).2) H5.out HLwB.out (fun u k b hb => ((HLw.out u (HM2.out.then_ k)).sB b hb).1) HN.out.1 (by omega) (by have := hlen.out; omega))
  clear hv2 hc2 e0 e1 e2 e3 e4
  simp only [RF.AG, Act.put, List.setIfInBounds_toArray, List.set_cons_succ, List.set_cons_zero]
  go_wp2_with fail
  refine HCb.out.mono ?_
  rintro e u3 ⟨rfl, v3, hv3, hc3⟩
  have HV3 : Hid (Wv u3 pb v3 ([] ++ nb 8 tk ++ nb 8 nbd ++ nb 8 nj ++ vB (c1 gx gy) 1 ++ nb 2 (nB : Nat) ++ B.flatMap bdB)) := hv3
  have HC3 := hid (HC2.out.then_ hc3)
  have f6 : u3.cell? ⟨g1, 6, none⟩ = some (.slice oj nJ cj) := HC3.out.but.cell (HB.out.at_ 6) HG.out
  have HM3 := hid (Wc.low HW1.out HC3.out)
  have hlen3 : Hid (([] ++ nb 8 tk ++ nb 8 nbd ++ nb 8 nj ++ vB (c1 gx gy) 1 ++ nb 2 (nB : Nat) ++ B.flatMap bdB).length ≤ 4400000000) := by unfold Hid; have h := bdBs_len B H5.out; rw [HN.out.1] at h; rw [List.length_append, List.length_append, nb_len]; have := hlen.out; omega
  have HCj := hid (cwjoints_c (m := 2) (c := cj) HV3.out (fun u k => (HLw.out u (HM3.out.then_ k)).lJ) HA.out.iJ HN.out.2.1 (by omega) (by have := hlen3.out; omega))
  clear hv3 hc3 f5
  go_wp2_with fail
  refine HCj.out.mono ?_
  rintro e u4 ⟨rfl, v4, hv4, hc4⟩
  have HV4 : Hid (Wv u4 pb v4 ([] ++ nb 8 tk ++ nb 8 nbd ++ nb 8 nj ++ vB (c1 gx gy) 1 ++ nb 2 (nB : Nat) ++ B.flatMap bdB ++ nb 2 (nJ : Nat) ++ J.flatMap jtB)) := hv4
  have HC4 := hid (HC3.out.then_ hc4)
  have f7 : u4.cell? ⟨g1, 7, none⟩ = some (.slice oc nC cc) := HC4.out.but.cell (HB.out.at_ 7) HG.out
  have HM4 := hid (Wc.low HW1.out HC4.out)
  have hlen4 : Hid (([] ++ nb 8 tk ++ nb 8 nbd ++ nb 8 nj ++ vB (c1 gx gy) 1 ++ nb 2 (nB : Nat) ++ B.flatMap bdB ++ nb 2 (nJ : Nat) ++ J.flatMap jtB).length ≤ 4500000000) := by unfold Hid; have h := jtBs_len J; rw [HN.out.2.1] at h; rw [List.length_append, List.length_append, nb_len]; have := hlen3.out; omega
  have HCc := hid (cwcontacts_c (m := 4) (c := cc) HV4.out (fun u k => (HLw.out u (HM4.out.then_ k)).lC) HA.out.iC HN.out.2.2 (by omega) (by have := hlen4.out; omega))
  clear hv4 hc4 f6
  go_wp2_with fail
  refine HCc.out.mono ?_
  rintro e u5 ⟨rfl, v5, hv5, hc5⟩
  have HV5 : Hid (Wv u5 pb v5 (wdB tk nbd nj gx gy B J C)) := by
   unfold Hid wdB
   rw [HN.out.1, HN.out.2.1, HN.out.2.2]
   rw [vB1] at hv5
   simpa only [List.append_assoc, List.nil_append] using hv5
  have HC5 := hid (HC4.out.then_ hc5)
  have HM5 : Hid (Made w.heap.size w u5) := KW.out.then_ ((Wc.low HW1.out HC5.out).low (by have := HPB.out; have := HG1.out; omega))
  have hlen5 : Hid ((wdB tk nbd nj gx gy B J C).length ≤ 17179869184) := by
   unfold Hid wdB
   have h := ctBs_len C
   have h2 := jtBs_len J
   have h3 := bdBs_len B H5.out
   rw [HN.out.2.2] at h
   rw [HN.out.2.1] at h2
   rw [HN.out.1] at h3
   simp only [List.length_append, nb_len]
   omega
  clear hv5 hc5 f7
  go_wp2_with fail
  refine (wbytes_c HV5.out (by have := hlen5.out; omega)).mono ?_
  rintro e u6 ⟨ao', c', rfl, hc', hO, hM⟩
  have HO := hid hO
  have HM6 := hid (HM5.out.then_ (hM.low HM5.out.1.size))
  clear hO hM
  go_wp2_with fail
  go_ret
  exact ⟨ao', _, c', rfl, rfl, hlen5.out, hc', HO.out.low HM5.out.1.size, HM6.out⟩
end Go.Proofs.YtgdcphmmehedoaaGreat.Fx
/- Package codec: vectors are read. -/
namespace Go.Proofs.YtgdcphmmehedoaaGreat.Fx
open Go.ChangeShapes Go.WideShapes Go.ChangeAt Go.RowKit
set_option linter.unusedVariables false
theorem But.then_' {X Y : Nat → Prop} {a b c : World} (h : But X a b) (k : But Y b c) (hY : ∀ g, Y g → X g ∨ a.heap.size ≤ g) : But X a c :=
 ⟨k.os.trans h.os, k.tape.trans h.tape, k.output.trans h.output, Nat.le_trans h.size k.size, fun i hi hx => (k.block i (Nat.lt_of_lt_of_le hi h.size) fun hy => by
  rcases hY i hy with e | e
  ·exact hx e
  ·omega).trans (h.block i hi hx), fun x => (k.marks x).trans (h.marks x)⟩
abbrev rdV (pb : Nat) : Value := .agg #[.pointer (some ⟨pb, 0, none⟩)]
end Go.Proofs.YtgdcphmmehedoaaGreat.Fx
/- Package codec: a shape is read. -/
namespace Go.Proofs.YtgdcphmmehedoaaGreat.Fx
open Go.ChangeShapes Go.WideShapes Go.ChangeAt Go.RowKit
set_option linter.unusedVariables false
def ShAt (w w' : World) (x : Value) (d : ShD) : Prop := ∃ ao c, x = .agg #[.int .i64 d.k, .int .i64 d.r, .slice ao d.p.length c] ∧ Sl w' ao d.p.length (gP d.p) ∧ (∀ b off q, ao = some ⟨b, off, q⟩ → w.heap.size ≤ b) ∧ ((ao = none ∧ d.p.length = 0 ∧ c = 0) ∨ ∃ a, ao = some a)
end Go.Proofs.YtgdcphmmehedoaaGreat.Fx
/- Package codec: an order is read. -/
namespace Go.Proofs.YtgdcphmmehedoaaGreat.Fx
open Go.ChangeShapes Go.WideShapes Go.ChangeAt Go.RowKit
set_option linter.unusedVariables false
theorem But.row (w : World) (g : Nat) (cs : Array Value) : But (fun b => b = g) w (w.setRow g cs) :=
 ⟨rfl, rfl, rfl, by simp, fun b _ hb => setRow_other w g b _ hb, fun a => frozen_setRow _ _ _ a⟩
def OrAt (w w' : World) (x : Value) (d : Or) : Prop := ∃ ao c, x = orV { d with ao := ao, c := c } ∧ Sl w' ao d.n d.f ∧ (∀ b off q, ao = some ⟨b, off, q⟩ → w.heap.size ≤ b) ∧ ((ao = none ∧ d.n = 0 ∧ c = 0) ∨ ∃ a, ao = some a)
theorem OrAt.bare (w w' : World) (d : Or) (h0 : d.ao = none) (h1 : d.n = 0) (h2 : d.c = 0) : OrAt w w' (orV d) d :=
 ⟨none, 0, by rw [← h0, ← h2], fun hn => by omega, fun b off q e => (by cases e), .inl ⟨rfl, h1, rfl⟩⟩
end Go.Proofs.YtgdcphmmehedoaaGreat.Fx
/- Package codec: orders are read. -/
namespace Go.Proofs.YtgdcphmmehedoaaGreat.Fx
open Go.ChangeShapes Go.WideShapes Go.ChangeAt Go.RowKit
set_option linter.unusedVariables false
def bare (o : Or) : Or := { o with ao := none, c := 0 }
def OrIn (g : Nat) (x : Value) (w : World) (o : Or) : Prop := Sl w o.ao o.n o.f ∧ ((o.ao = none ∧ o.n = 0 ∧ o.c = 0) ∨ ∃ a, o.ao = some a) ∧ ∀ b off q, o.ao = some ⟨b, off, q⟩ → g ≤ b ∧ (0 < o.n → some b ≠ x.ownBlock)
theorem OrIn.but {g : Nat} {x : Value} {w u : World} {o : Or} {X : Nat → Prop} (h : OrIn g x w o) (k : But X w u) (hx : ∀ b, g ≤ b → (0 < o.n → some b ≠ x.ownBlock) → ¬ X b) : OrIn g x u o :=
 ⟨Sl.but h.1 k (fun b off s e => hx b (h.2.2 b off s e).1 (h.2.2 b off s e).2), h.2⟩
abbrev OneOrder (pb B : Nat) : Prop := ∀ (s : Rs) (w : World), Rd w pb B s → RsOk s → B ≤ w.heap.size → Calls Tryz.prog 30 #[rdV pb] w fun e w' => ∃ x, e = .returned x ∧ OrAt w w' x (dO s).1 ∧ Rd w' pb B (dO s).2 ∧ But (fun b => b = pb) w w'
theorem rFail_c {pb B : Nat} {s : Rs} {w : World} (h : Rd w pb B s) : Calls Tryz.prog 72 #[.pointer (some ⟨pb, 0, none⟩)] w fun e w' => e = .returned (.tuple #[]) ∧ Rd w' pb B none ∧ But (fun b => b = pb) w w' := by
 obtain ⟨hp, h⟩ := h
 cases s with
 | none =>
  refine (rfailx_c h).mono ?_
  rintro e w' ⟨rfl, h1, h2⟩
  exact ⟨rfl, ⟨hp, h1⟩, h2.but⟩
 | some l =>
  obtain ⟨ao, c, h2, h3⟩ : ∃ ao c, Re w pb ao l.length c (gl l) ∧ (0 < l.length → ∀ b off, ao = some ⟨b, off, none⟩ → b < B) := h
  refine (rfail_c h2).mono ?_
  rintro e w' ⟨rfl, h1, h2⟩
  exact ⟨rfl, ⟨hp, h1⟩, h2.but⟩
theorem rC_c {pb B : Nat} {s : Rs} {w : World} {most : Int} (h : Rd w pb B s) (hs : RsOk s) : Calls Tryz.prog 29 #[.pointer (some ⟨pb, 0, none⟩), .int .i64 most] w fun e w' => e = .returned (.int .i64 (dC most s).1) ∧ Rd w' pb B (dC most s).2 ∧ But (fun b => b = pb) w w' := by
 have H := hid (rN_c (m := 2) h hs (by omega) (by omega))
 obtain ⟨n, en⟩ : ∃ n, (dN 2 s).1 = n := ⟨_, rfl⟩
 have HD : Hid (dC most s = if most < n then (0, none) else dN 2 s) := by unfold Hid dC; rw [en]
 rw [en] at H
 have EN := hid en
 clear h hs en
 by_cases hm : most < n
 ·have e1 : decide (n > most) = true := decide_eq_true hm
  go_enter Tryz.func29, Tryz.ntmps29
  go_wp2_with fail
  refine H.out.mono ?_
  rintro e w1 ⟨rfl, h1, k1⟩
  have H2 := hid (rFail_c h1)
  have K1 := hid k1
  clear h1 k1
  go_wp2_with fail
  refine H2.out.mono ?_
  rintro e w2 ⟨rfl, h2, k2⟩
  have R2 := hid h2
  have K2 := hid (K1.out.then_ k2)
  clear h2 k2
  go_wp2_with fail
  go_ret
  rw [HD.out, if_pos hm]
  exact ⟨rfl, R2.out, K2.out⟩
 ·have e1 : decide (n > most) = false := decide_eq_false hm
  go_enter Tryz.func29, Tryz.ntmps29
  go_wp2_with fail
  refine H.out.mono ?_
  rintro e w1 ⟨rfl, h1, k1⟩
  have R1 := hid h1
  have K1 := hid k1
  clear h1 k1
  go_wp2_with fail
  go_ret
  rw [HD.out, if_neg (by omega)]
  exact ⟨by rw [EN.out]; rfl, R1.out, K1.out⟩
end Go.Proofs.YtgdcphmmehedoaaGreat.Fx
/- Package codec: codec.ReadBatch. -/
namespace Go.Proofs.YtgdcphmmehedoaaGreat.Fx
open Go.ChangeShapes Go.WideShapes Go.ChangeAt Go.RowKit
set_option linter.unusedVariables false
def OkB (bs : List Nat) : Prop := (dBat (some bs)).2 = some [] ∧ ∀ o ∈ (dBat (some bs)).1, OrderP o
theorem rs_of {bs : List Nat} (h : ∀ b ∈ bs, b < 256) : RsOk (some bs) := fun l e => by cases e; exact h
def RowO (g : Nat) (x : Value) (w : World) (D : List Or) : Prop := ∃ L, w.ownsRow g 49 15 x L.length (flatE encO L) ∧ (∀ o ∈ L, OrIn g x w o) ∧ L.map bare = D
end Go.Proofs.YtgdcphmmehedoaaGreat.Fx