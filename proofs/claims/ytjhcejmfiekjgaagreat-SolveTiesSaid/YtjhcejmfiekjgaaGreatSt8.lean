/- WoK -/
import Derived.Test.YtjhcejmfiekjgaaGreatSt7
import Derived.BigQuiet
import Derived.Deep.LoopGhost
import Derived.LoopN
import Derived.WalkMore
set_option maxRecDepth 100000
set_option maxHeartbeats 64000000
/- Clone, Clip and with over bodies, joints and contacts. -/
namespace Go.Proofs.YtjhcejmfiekjgaaGreat.Fx
open Go.ChangeShapes Go.WideShapes Go.ChangeAt Go.RowKit
set_option linter.unusedVariables false
def SlOk (ao : Option Addr) (n c : Nat) : Prop := n ≤ c ∧ c ≤ maxLen ∧ ((ao = none ∧ n = 0 ∧ c = 0) ∨ ∃ b off, ao = some ⟨b, off, none⟩)
structure NewL {α : Type} (enc : α → List Value) (k : Nat) (t : TypeId) (w v : World) (ao : Option Addr) (n c : Nat) (l : List α) : Prop where
 len : l.length = n
 ls : LsT enc k v ao l
 nc : n ≤ c
 cm : c ≤ maxLen
 ok : (ao = none ∧ n = 0 ∧ c = 0) ∨ ∃ b off, ao = some ⟨b, off, none⟩
 fresh : ∀ b off s, ao = some ⟨b, off, s⟩ → w.heap.size ≤ b
 row : 0 < n → ∃ g, ao = some ⟨g, 0, none⟩ ∧ RowL enc k v g t n l
theorem has_news {w : World} {g : Nat} {t : TypeId} {A : List Value} (h : Has w g t A.toArray) : ∀ j u, A[j]? = some u → w.cell? ((⟨g, 0, none⟩ : Addr).add j) = some u := by
 intro j u hj
 rw [Addr.add_lit, Nat.zero_add, h.at_]
 simpa using hj
def val1 (i g e : Nat) : Value := .slice (some ⟨g, 0, none⟩) 1 1
theorem infoB : (Tryz.prog.info? 43).map (fun i => (i.zero, i.size, i.bytes)) = some (some (.agg #[.int .i64 0, .int .i64 0, .int .i64 0, .int .i64 0, .int .i64 0, .int .i64 0, .int .i64 0, .int .i64 0, .int .i64 0, .int .i64 0, .slice none 0 0]), 11, 104) := by kernel_rfl
theorem cloneB_x {l : List Bd} {ao : Option Addr} {n c : Nat} {w : World} (hn : l.length = n) (hmx : n ≤ 1073741824) (hl : LsT encB 11 w ao l) (ho : SlOk ao n c) :
  Calls Tryz.prog 119 #[.slice ao n c] w fun e v => ∃ ao' c', e = .returned (.slice ao' n c') ∧ NewL encB 11 43 w v ao' n c' l ∧ Made w.heap.size w v ∧ (ao = none → ao' = none ∧ c' = 0) := by
 obtain ⟨i0, hi, hz0, hz1, hz2⟩ := info_parts infoB
 have iHi := hid hi; have iH0 := hid hz0; have iH1 := hid hz1; have iH2 := hid hz2
 have HN := hid hn
 clear hi hz0 hz1 hz2
 rcases ho.2.2 with ⟨rfl, rfl, rfl⟩ | ⟨b, off, rfl⟩
 ·have q := fun W : World => Lib.run_eql_slice_nil (P := Tryz.prog) W 27 43 none 0 0 0 0 Tryz.underlying27
  clear hn hl
  go_enter Tryz.func119, Tryz.ntmps119
  go_wp2_with fail
  go_ret
  exact ⟨none, 0, rfl, ⟨HN.out, fun h => absurd h (by rw [HN.out]; omega), by omega, by unfold maxLen; omega, .inl ⟨rfl, rfl, rfl⟩, fun b off s e => (by cases e), fun h => absurd h (by omega)⟩, Made.rfl_ _ _, fun _ => ⟨rfl, rfl⟩⟩
 ·have q := fun W : World => Lib.run_eql_slice_nil (P := Tryz.prog) W 27 43 (some ⟨b, off, none⟩) n c 0 0 Tryz.underlying27
  have HA : Hid (Made w.heap.size w (w.alloc (.cells #[] 43))) := (Made.rfl_ _ _).cells (Nat.le_refl _) _ _
  have HO : Hid ((w.alloc (.cells #[] 43)).ownsRow w.heap.size 43 11 (.slice (some ⟨w.heap.size, 0, none⟩) 0 0) 0 []) := World.ownsRow_lit w #[] 0 (Nat.le_refl _) (by unfold maxLen; omega) rfl
  rcases Nat.eq_zero_or_pos n with h0 | h0
  ·subst h0
   clear hn hl
   go_enter Tryz.func119, Tryz.ntmps119
   go_wp2_with fail
   go_ret
   exact ⟨some ⟨w.heap.size, 0, none⟩, 0, rfl, ⟨HN.out, fun h => absurd h (by rw [HN.out]; omega), by omega, by unfold maxLen; omega, .inr ⟨_, _, rfl⟩, fun b off s e => (by cases e; exact Nat.le_refl _), fun h => absurd h (by omega)⟩, HA.out, fun e => (by cases e)⟩
  ·obtain ⟨b', off', e, hbl, hLB⟩ := hl (by omega)
   cases e
   have HLB := hid hLB
   clear hn hl hLB
   go_enter Tryz.func119, Tryz.ntmps119
   go_wp2_with (at_builtin; refine wpList_append_made _ rfl (.tmp 5) (.tmp 6) 27 rfl w.heap.size 43 i0 (.agg #[.int .i64 0, .int .i64 0, .int .i64 0, .int .i64 0, .int .i64 0, .int .i64 0, .int .i64 0, .int .i64 0, .int .i64 0, .int .i64 0, .slice none 0 0]) 11 104 Tryz.underlying27 iHi.out iH0.out iH1.out iH2.out rfl (by decide) (.slice (some ⟨w.heap.size, 0, none⟩) 0 0) 0 [] rfl HO.out ⟨b, off, none⟩ n c (flatE encB l) rfl (by rw [flatE_len encB_len, HN.out]) (LsB.newsL encB_len (HLB.out.below HA.out.1 hbl)) (flatE_one encB_one l) (by unfold maxLen; omega) (by omega) (by simp) h0 ?_)
   intro v' w1 hown hg hf
   have hown : w1.ownsRow w.heap.size 43 11 v' n (flatE encB l) := by simpa using hown
   obtain ⟨g, c', rfl, hbg, hc, hm, hrow⟩ := RowL.of_own encB_len HN.out hown h0
   have M1 : Hid (Made w.heap.size w w1) := HA.out.app hg hf (by simp) (fun k hk => by simp [Value.ownBlock] at hk; omega)
   have HR := hid hrow
   clear hown hg hf hrow
   go_wp2_with fail
   go_ret
   exact ⟨some ⟨g, 0, none⟩, c', rfl, ⟨HN.out, HR.out.lsT, hc, hm, .inr ⟨_, _, rfl⟩, fun b off s e => (by cases e; exact hbg), fun _ => ⟨g, rfl, HR.out⟩⟩, M1.out, fun e => (by cases e)⟩
theorem cloneB_c {l : List Bd} {ao : Option Addr} {n c : Nat} {w : World} (hn : l.length = n) (hmx : n ≤ 1073741824) (hl : LsT encB 11 w ao l) (ho : SlOk ao n c) :
  Calls Tryz.prog 119 #[.slice ao n c] w fun e v => ∃ ao' c', e = .returned (.slice ao' n c') ∧ NewL encB 11 43 w v ao' n c' l ∧ Made w.heap.size w v :=
 (cloneB_x hn hmx hl ho).mono fun _ _ ⟨a, c, h1, h2, h3, _⟩ => ⟨a, c, h1, h2, h3⟩
theorem infoJ : (Tryz.prog.info? 36).map (fun i => (i.zero, i.size, i.bytes)) = some (some (.agg #[.int .i64 0, .int .i64 0, .int .i64 0, .int .i64 0, .int .i64 0, .int .i64 0, .int .i64 0, .int .i64 0]), 8, 64) := by kernel_rfl
theorem cloneJ_x {l : List Jt} {ao : Option Addr} {n c : Nat} {w : World} (hn : l.length = n) (hmx : n ≤ 1073741824) (hl : LsT encJ 8 w ao l) (ho : SlOk ao n c) :
  Calls Tryz.prog 120 #[.slice ao n c] w fun e v => ∃ ao' c', e = .returned (.slice ao' n c') ∧ NewL encJ 8 36 w v ao' n c' l ∧ Made w.heap.size w v ∧ (ao = none → ao' = none ∧ c' = 0) := by
 obtain ⟨i0, hi, hz0, hz1, hz2⟩ := info_parts infoJ
 have iHi := hid hi; have iH0 := hid hz0; have iH1 := hid hz1; have iH2 := hid hz2
 have HN := hid hn
 clear hi hz0 hz1 hz2
 rcases ho.2.2 with ⟨rfl, rfl, rfl⟩ | ⟨b, off, rfl⟩
 ·have q := fun W : World => Lib.run_eql_slice_nil (P := Tryz.prog) W 28 36 none 0 0 0 0 Tryz.underlying28
  clear hn hl
  go_enter Tryz.func120, Tryz.ntmps120
  go_wp2_with fail
  go_ret
  exact ⟨none, 0, rfl, ⟨HN.out, fun h => absurd h (by rw [HN.out]; omega), by omega, by unfold maxLen; omega, .inl ⟨rfl, rfl, rfl⟩, fun b off s e => (by cases e), fun h => absurd h (by omega)⟩, Made.rfl_ _ _, fun _ => ⟨rfl, rfl⟩⟩
 ·have q := fun W : World => Lib.run_eql_slice_nil (P := Tryz.prog) W 28 36 (some ⟨b, off, none⟩) n c 0 0 Tryz.underlying28
  have HA : Hid (Made w.heap.size w (w.alloc (.cells #[] 36))) := (Made.rfl_ _ _).cells (Nat.le_refl _) _ _
  have HO : Hid ((w.alloc (.cells #[] 36)).ownsRow w.heap.size 36 8 (.slice (some ⟨w.heap.size, 0, none⟩) 0 0) 0 []) := World.ownsRow_lit w #[] 0 (Nat.le_refl _) (by unfold maxLen; omega) rfl
  rcases Nat.eq_zero_or_pos n with h0 | h0
  ·subst h0
   clear hn hl
   go_enter Tryz.func120, Tryz.ntmps120
   go_wp2_with fail
   go_ret
   exact ⟨some ⟨w.heap.size, 0, none⟩, 0, rfl, ⟨HN.out, fun h => absurd h (by rw [HN.out]; omega), by omega, by unfold maxLen; omega, .inr ⟨_, _, rfl⟩, fun b off s e => (by cases e; exact Nat.le_refl _), fun h => absurd h (by omega)⟩, HA.out, fun e => (by cases e)⟩
  ·obtain ⟨b', off', e, hbl, hLB⟩ := hl (by omega)
   cases e
   have HLB := hid hLB
   clear hn hl hLB
   go_enter Tryz.func120, Tryz.ntmps120
   go_wp2_with (at_builtin; refine wpList_append_made _ rfl (.tmp 5) (.tmp 6) 28 rfl w.heap.size 36 i0 (.agg #[.int .i64 0, .int .i64 0, .int .i64 0, .int .i64 0, .int .i64 0, .int .i64 0, .int .i64 0, .int .i64 0]) 8 64 Tryz.underlying28 iHi.out iH0.out iH1.out iH2.out rfl (by decide) (.slice (some ⟨w.heap.size, 0, none⟩) 0 0) 0 [] rfl HO.out ⟨b, off, none⟩ n c (flatE encJ l) rfl (by rw [flatE_len encJ_len, HN.out]) (LsB.newsL encJ_len (HLB.out.below HA.out.1 hbl)) (flatE_one encJ_one l) (by unfold maxLen; omega) (by omega) (by simp) h0 ?_)
   intro v' w1 hown hg hf
   have hown : w1.ownsRow w.heap.size 36 8 v' n (flatE encJ l) := by simpa using hown
   obtain ⟨g, c', rfl, hbg, hc, hm, hrow⟩ := RowL.of_own encJ_len HN.out hown h0
   have M1 : Hid (Made w.heap.size w w1) := HA.out.app hg hf (by simp) (fun k hk => by simp [Value.ownBlock] at hk; omega)
   have HR := hid hrow
   clear hown hg hf hrow
   go_wp2_with fail
   go_ret
   exact ⟨some ⟨g, 0, none⟩, c', rfl, ⟨HN.out, HR.out.lsT, hc, hm, .inr ⟨_, _, rfl⟩, fun b off s e => (by cases e; exact hbg), fun _ => ⟨g, rfl, HR.out⟩⟩, M1.out, fun e => (by cases e)⟩
theorem infoC : (Tryz.prog.info? 118).map (fun i => (i.zero, i.size, i.bytes)) = some (some (.agg #[.int .i64 0, .int .i64 0, .int .i64 0, .int .i64 0, .int .i64 0]), 5, 40) := by kernel_rfl
theorem cloneC_x {l : List Ct} {ao : Option Addr} {n c : Nat} {w : World} (hn : l.length = n) (hmx : n ≤ 1073741824) (hl : LsT encC 5 w ao l) (ho : SlOk ao n c) :
  Calls Tryz.prog 121 #[.slice ao n c] w fun e v => ∃ ao' c', e = .returned (.slice ao' n c') ∧ NewL encC 5 118 w v ao' n c' l ∧ Made w.heap.size w v ∧ (ao = none → ao' = none ∧ c' = 0) := by
 obtain ⟨i0, hi, hz0, hz1, hz2⟩ := info_parts infoC
 have iHi := hid hi; have iH0 := hid hz0; have iH1 := hid hz1; have iH2 := hid hz2
 have HN := hid hn
 clear hi hz0 hz1 hz2
 rcases ho.2.2 with ⟨rfl, rfl, rfl⟩ | ⟨b, off, rfl⟩
 ·have q := fun W : World => Lib.run_eql_slice_nil (P := Tryz.prog) W 29 118 none 0 0 0 0 Tryz.underlying29
  clear hn hl
  go_enter Tryz.func121, Tryz.ntmps121
  go_wp2_with fail
  go_ret
  exact ⟨none, 0, rfl, ⟨HN.out, fun h => absurd h (by rw [HN.out]; omega), by omega, by unfold maxLen; omega, .inl ⟨rfl, rfl, rfl⟩, fun b off s e => (by cases e), fun h => absurd h (by omega)⟩, Made.rfl_ _ _, fun _ => ⟨rfl, rfl⟩⟩
 ·have q := fun W : World => Lib.run_eql_slice_nil (P := Tryz.prog) W 29 118 (some ⟨b, off, none⟩) n c 0 0 Tryz.underlying29
  have HA : Hid (Made w.heap.size w (w.alloc (.cells #[] 118))) := (Made.rfl_ _ _).cells (Nat.le_refl _) _ _
  have HO : Hid ((w.alloc (.cells #[] 118)).ownsRow w.heap.size 118 5 (.slice (some ⟨w.heap.size, 0, none⟩) 0 0) 0 []) := World.ownsRow_lit w #[] 0 (Nat.le_refl _) (by unfold maxLen; omega) rfl
  rcases Nat.eq_zero_or_pos n with h0 | h0
  ·subst h0
   clear hn hl
   go_enter Tryz.func121, Tryz.ntmps121
   go_wp2_with fail
   go_ret
   exact ⟨some ⟨w.heap.size, 0, none⟩, 0, rfl, ⟨HN.out, fun h => absurd h (by rw [HN.out]; omega), by omega, by unfold maxLen; omega, .inr ⟨_, _, rfl⟩, fun b off s e => (by cases e; exact Nat.le_refl _), fun h => absurd h (by omega)⟩, HA.out, fun e => (by cases e)⟩
  ·obtain ⟨b', off', e, hbl, hLB⟩ := hl (by omega)
   cases e
   have HLB := hid hLB
   clear hn hl hLB
   go_enter Tryz.func121, Tryz.ntmps121
   go_wp2_with (at_builtin; refine wpList_append_made _ rfl (.tmp 5) (.tmp 6) 29 rfl w.heap.size 118 i0 (.agg #[.int .i64 0, .int .i64 0, .int .i64 0, .int .i64 0, .int .i64 0]) 5 40 Tryz.underlying29 iHi.out iH0.out iH1.out iH2.out rfl (by decide) (.slice (some ⟨w.heap.size, 0, none⟩) 0 0) 0 [] rfl HO.out ⟨b, off, none⟩ n c (flatE encC l) rfl (by rw [flatE_len encC_len, HN.out]) (LsB.newsL encC_len (HLB.out.below HA.out.1 hbl)) (flatE_one encC_one l) (by unfold maxLen; omega) (by omega) (by simp) h0 ?_)
   intro v' w1 hown hg hf
   have hown : w1.ownsRow w.heap.size 118 5 v' n (flatE encC l) := by simpa using hown
   obtain ⟨g, c', rfl, hbg, hc, hm, hrow⟩ := RowL.of_own encC_len HN.out hown h0
   have M1 : Hid (Made w.heap.size w w1) := HA.out.app hg hf (by simp) (fun k hk => by simp [Value.ownBlock] at hk; omega)
   have HR := hid hrow
   clear hown hg hf hrow
   go_wp2_with fail
   go_ret
   exact ⟨some ⟨g, 0, none⟩, c', rfl, ⟨HN.out, HR.out.lsT, hc, hm, .inr ⟨_, _, rfl⟩, fun b off s e => (by cases e; exact hbg), fun _ => ⟨g, rfl, HR.out⟩⟩, M1.out, fun e => (by cases e)⟩
theorem clipB_none (w : World) : Calls Tryz.prog 78 #[.slice none 0 0] w fun e v => e = .returned (.slice none 0 0) ∧ w = v := by
 go_enter Tryz.func78, Tryz.ntmps78
 go_wp2_with fail
 go_ret
 exact ⟨rfl, rfl⟩
theorem clipB_c (b off n c : Nat) (w : World) (hc : n ≤ c) (hm : c ≤ maxLen) : Calls Tryz.prog 78 #[.slice (some ⟨b, off, none⟩) n c] w fun e v => e = .returned (.slice (some ⟨b, off, none⟩) n n) ∧ w = v := by
 unfold maxLen at hm
 go_enter Tryz.func78, Tryz.ntmps78
 go_wp2_with fail
 go_ret
 exact ⟨rfl, rfl⟩
def alB (x : Bd) (i : Nat) (v : World) (g e : Nat) : Prop := Has v g 43 (encB x).toArray
theorem alB_lasts (x : Bd) : MK.Lasts (alB x) := fun i u v g e h hg k => h.stays k hg
theorem withB_c (x : Bd) {l : List Bd} {ao : Option Addr} {n c : Nat} {w : World} (hn : l.length = n) (hmx : n ≤ 1073741823) (hl : LsT encB 11 w ao l) (ho : SlOk ao n c) :
  Calls Tryz.prog 41 #[.slice ao n c, bdV x] w fun e v => ∃ ao' c', e = .returned (.slice ao' (n + 1) c') ∧ NewL encB 11 43 w v ao' (n + 1) c' (l ++ [x]) ∧ Made w.heap.size w v := by
 obtain ⟨i0, hi, hz0, hz1, hz2⟩ := info_parts infoB
 have iHi := hid hi; have iH0 := hid hz0; have iH1 := hid hz1; have iH2 := hid hz2
 have HN := hid hn
 have HL := hid (fun v (k : Made w.heap.size w v) => hl.below k.1)
 obtain ⟨hoc, hom, ho3⟩ := ho
 obtain ⟨W, eW⟩ : ∃ W, W = w.alloc (.cells (encB x).toArray 43) := ⟨_, rfl⟩
 have KW : Hid (Made w.heap.size w W) := by unfold Hid; rw [eW]; exact (Made.rfl_ _ _).cells (Nat.le_refl _) _ _
 have HB : Hid (Has W w.heap.size 43 (encB x).toArray) := by unfold Hid; rw [eW]; exact has_new _ _ _
 obtain ⟨g0, eg⟩ : ∃ g, w.heap.size = g := ⟨_, rfl⟩
 rw [eg] at HB
 clear hi hz0 hz1 hz2 hn hl
 have HX : Hid (flatE encB l ++ encB x = flatE encB (l ++ [x])) := flatE_snoc l x
 have HE1 : Hid (∀ u ∈ encB x, u.oneCell' = true) := encB_one x
 have l0 : g0 < W.heap.size := HB.out.here
 have b0 : True := trivial
 clear b0
 have b0 := HB.out.at_ 0
 have b1 := HB.out.at_ 1
 have b2 := HB.out.at_ 2
 have b3 := HB.out.at_ 3
 have b4 := HB.out.at_ 4
 have b5 := HB.out.at_ 5
 have b6 := HB.out.at_ 6
 have b7 := HB.out.at_ 7
 have b8 := HB.out.at_ 8
 have b9 := HB.out.at_ 9
 have b10 := HB.out.at_ 10
 obtain ⟨x0, x1, x2, x3, x4, x5, x6, x7, x8, x9, x10, x11, x12, x13⟩ := x
 simp only [encB] at eW HB HE1
 simp [encB] at b0 b1 b2 b3 b4 b5 b6 b7 b8 b9 b10
 rcases ho3 with ⟨rfl, rfl, rfl⟩ | ⟨bb, off, rfl⟩
 ·have hX : Hid (([] : List Value) ++ encB ⟨x0, x1, x2, x3, x4, x5, x6, x7, x8, x9, x10, x11, x12, x13⟩ = flatE encB (l ++ [⟨x0, x1, x2, x3, x4, x5, x6, x7, x8, x9, x10, x11, x12, x13⟩])) := by
   have := HX.out
   rw [List.length_eq_zero_iff.1 HN.out] at this ⊢
   exact this
  have HLn : Hid ((l ++ [(⟨x0, x1, x2, x3, x4, x5, x6, x7, x8, x9, x10, x11, x12, x13⟩ : Bd)]).length = 0 + 1) := by unfold Hid; rw [List.length_append, HN.out]; rfl
  generalize l ++ [(⟨x0, x1, x2, x3, x4, x5, x6, x7, x8, x9, x10, x11, x12, x13⟩ : Bd)] = L at HX hX HLn ⊢
  go_enter Tryz.func41, Tryz.ntmps41
  go_upto_region 1 with fail
  rw [← eW]
  clear eW
  try rw [eg]
  refine MK.reg_mk (alB (⟨x0, x1, x2, x3, x4, x5, x6, x7, x8, x9, x10, x11, x12, x13⟩ : Bd)) 4 [0, 1, 2, 3] [0, 1, 2] [3] [] (fun _ => []) (val := val1) (by kernel_rfl) (by kernel_rfl) ?hpunone ?_
  case hpunone => intro p hp; simp at hp
  refine MK.can_class (rest := [3]) [0, 1, 2] [] 10 (alB_lasts _) (MK.any_class _) (by kernel_rfl) rfl (by kernel_rfl) (by kernel_rfl) ?_
  apply Exists.intro
  refine ⟨?q1none, ?q2none⟩
  case q1none =>
   intro Ty hT fw hf _
   have z0 := Class.reads hf b0
   have z1 := Class.reads hf b1
   have z2 := Class.reads hf b2
   have z3 := Class.reads hf b3
   have z4 := Class.reads hf b4
   have z5 := Class.reads hf b5
   have z6 := Class.reads hf b6
   have z7 := Class.reads hf b7
   have z8 := Class.reads hf b8
   have z9 := Class.reads hf b9
   have z10 := Class.reads hf b10
   change wpQuiet _ _ _ _ [_, _, _] _
   repeat (go_big_quiet_step ((go_at_call 78; exact hf.same (clipB_none _))))
   exact wpQuiet_nil rfl
  refine MK.can_mk 3 8 _ rfl rfl rfl rfl ?m1none fun g3 e3 => ?m2none
  case m1none =>
   intro G' u _ hu
   rw [show (execOp _ _).run Tryz.prog u = .ok (.value (.slice (some ⟨u.heap.size, 0, none⟩) 1 1)) (u.alloc (.cells #[.int .i64 x0, .int .i64 x1, .int .i64 x2, .int .i64 x3, .int .i64 x4, .int .i64 x5, .int .i64 x6, .int .i64 x7, .int .i64 x8, .int .i64 x9, .slice x10 x11 x12] 43)) from by go_simp]
   exact ⟨u.heap.size, 0, rfl, hu.next (alB_lasts _) ((Made.rfl_ _ _).cells (Nat.le_refl _) _ _) (Nat.le_refl _) (by simp) (has_new _ _ _)⟩
  rw [show val1 3 g3 e3 = .slice (some ⟨g3, 0, none⟩) 1 1 from rfl]
  simp only [Act.put, List.setIfInBounds_toArray, List.set_cons_succ, List.set_cons_zero]
  intro w3 hu
  obtain ⟨hg3, hg4, h3⟩ := hu.2.1 3 (g3, e3) (by unfold MK.upd; simp)
  have K3 := hid (KW.out.then_ (hu.1.low KW.out.1.size))
  have HM3 := hid hu.1
  have HC3 : Hid (Has w3 g3 43 #[.int .i64 x0, .int .i64 x1, .int .i64 x2, .int .i64 x3, .int .i64 x4, .int .i64 x5, .int .i64 x6, .int .i64 x7, .int .i64 x8, .int .i64 x9, .slice x10 x11 x12]) := h3
  clear hu h3 b0 b1 b2 b3 b4 b5 b6 b7 b8 b9 b10
  simp only [List.drop_succ_cons, List.drop_zero]
  go_wp2_with (at_builtin; refine wpList_append_made _ rfl (.tmp 6) (.tmp 8) 27 rfl w3.heap.size 43 i0 (.agg #[.int .i64 0, .int .i64 0, .int .i64 0, .int .i64 0, .int .i64 0, .int .i64 0, .int .i64 0, .int .i64 0, .int .i64 0, .int .i64 0, .slice none 0 0]) 11 104 Tryz.underlying27 iHi.out iH0.out iH1.out iH2.out rfl (by decide) (.slice none 0 0) 0 [] rfl (World.ownsRow_nil _ _ _ _) ⟨g3, 0, none⟩ 1 1 [.int .i64 x0, .int .i64 x1, .int .i64 x2, .int .i64 x3, .int .i64 x4, .int .i64 x5, .int .i64 x6, .int .i64 x7, .int .i64 x8, .int .i64 x9, .slice x10 x11 x12] rfl rfl (has_news HC3.out) HE1.out (by unfold maxLen; omega) (by omega) (Nat.le_refl _) (by omega) ?_)
  intro v' w4 hown hgr hfr
  have hM4 : Made w3.heap.size w3 w4 := (Made.rfl_ _ _).app hgr hfr (Nat.le_refl _) (fun j hj => by cases hj)
  have hown : w4.ownsRow w3.heap.size 43 11 v' (0 + 1) (flatE encB L) := by rw [← hX.out]; exact hown
  clear hgr hfr
  obtain ⟨g, c', rfl, hbg, hc, hm, hrow⟩ := RowL.of_own encB_len (l := L) HLn.out hown (by omega)
  have M4 : Hid (Made w.heap.size w w4) := K3.out.then_ (hM4.low K3.out.1.size)
  have HR := hid hrow
  have hbg' : w.heap.size ≤ g := Nat.le_trans K3.out.1.size hbg
  clear hown hM4 hrow
  go_wp2_with fail
  refine NoPanic.normal ?_
  go_wp2_with fail
  go_ret
  exact ⟨some ⟨g, 0, none⟩, c', rfl, ⟨HLn.out, HR.out.lsT, hc, hm, .inr ⟨_, _, rfl⟩, fun b off s e => (by cases e; exact hbg'), fun _ => ⟨g, rfl, HR.out⟩⟩, M4.out⟩
 ·have HLn : Hid ((l ++ [(⟨x0, x1, x2, x3, x4, x5, x6, x7, x8, x9, x10, x11, x12, x13⟩ : Bd)]).length = n + 1) := by unfold Hid; rw [List.length_append, HN.out]; rfl
  generalize l ++ [(⟨x0, x1, x2, x3, x4, x5, x6, x7, x8, x9, x10, x11, x12, x13⟩ : Bd)] = L at HX HLn ⊢
  have HF : Hid (∀ v, Made w.heap.size w v → ∀ j u, (flatE encB l)[j]? = some u → v.cell? ((⟨bb, off, none⟩ : Addr).add j) = some u) := fun v k => by
   rcases Nat.eq_zero_or_pos l.length with h | h
   ·rw [List.length_eq_zero_iff.1 h]
    intro j u hu; simp [flatE] at hu
   ·obtain ⟨b', off', e, hb, hLB⟩ := HL.out v k h
    cases e
    exact LsB.newsL encB_len hLB
  have HFl : Hid ((flatE encB l).length = n * 11) := by unfold Hid; rw [flatE_len encB_len, HN.out]
  go_enter Tryz.func41, Tryz.ntmps41
  go_upto_region 1 with fail
  rw [← eW]
  clear eW
  try rw [eg]
  refine MK.reg_mk (alB (⟨x0, x1, x2, x3, x4, x5, x6, x7, x8, x9, x10, x11, x12, x13⟩ : Bd)) 4 [0, 1, 2, 3] [0, 1, 2] [3] [] (fun _ => []) (val := val1) (by kernel_rfl) (by kernel_rfl) ?hpusome ?_
  case hpusome => intro p hp; simp at hp
  refine MK.can_class (rest := [3]) [0, 1, 2] [] 10 (alB_lasts _) (MK.any_class _) (by kernel_rfl) rfl (by kernel_rfl) (by kernel_rfl) ?_
  apply Exists.intro
  refine ⟨?q1some, ?q2some⟩
  case q1some =>
   intro Ty hT fw hf _
   have z0 := Class.reads hf b0
   have z1 := Class.reads hf b1
   have z2 := Class.reads hf b2
   have z3 := Class.reads hf b3
   have z4 := Class.reads hf b4
   have z5 := Class.reads hf b5
   have z6 := Class.reads hf b6
   have z7 := Class.reads hf b7
   have z8 := Class.reads hf b8
   have z9 := Class.reads hf b9
   have z10 := Class.reads hf b10
   change wpQuiet _ _ _ _ [_, _, _] _
   repeat (go_big_quiet_step ((go_at_call 78; exact hf.same (clipB_c bb off n c _ hoc hom))))
   exact wpQuiet_nil rfl
  refine MK.can_mk 3 8 _ rfl rfl rfl rfl ?m1some fun g3 e3 => ?m2some
  case m1some =>
   intro G' u _ hu
   rw [show (execOp _ _).run Tryz.prog u = .ok (.value (.slice (some ⟨u.heap.size, 0, none⟩) 1 1)) (u.alloc (.cells #[.int .i64 x0, .int .i64 x1, .int .i64 x2, .int .i64 x3, .int .i64 x4, .int .i64 x5, .int .i64 x6, .int .i64 x7, .int .i64 x8, .int .i64 x9, .slice x10 x11 x12] 43)) from by go_simp]
   exact ⟨u.heap.size, 0, rfl, hu.next (alB_lasts _) ((Made.rfl_ _ _).cells (Nat.le_refl _) _ _) (Nat.le_refl _) (by simp) (has_new _ _ _)⟩
  rw [show val1 3 g3 e3 = .slice (some ⟨g3, 0, none⟩) 1 1 from rfl]
  simp only [Act.put, List.setIfInBounds_toArray, List.set_cons_succ, List.set_cons_zero]
  intro w3 hu
  obtain ⟨hg3, hg4, h3⟩ := hu.2.1 3 (g3, e3) (by unfold MK.upd; simp)
  have K3 := hid (KW.out.then_ (hu.1.low KW.out.1.size))
  have HM3 := hid hu.1
  have HC3 : Hid (Has w3 g3 43 #[.int .i64 x0, .int .i64 x1, .int .i64 x2, .int .i64 x3, .int .i64 x4, .int .i64 x5, .int .i64 x6, .int .i64 x7, .int .i64 x8, .int .i64 x9, .slice x10 x11 x12]) := h3
  clear hu h3 b0 b1 b2 b3 b4 b5 b6 b7 b8 b9 b10
  simp only [List.drop_succ_cons, List.drop_zero]
  go_wp2_with (at_builtin; refine wpList_append_full rfl (.tmp 6) (.tmp 8) 27 rfl 43 i0 (.agg #[.int .i64 0, .int .i64 0, .int .i64 0, .int .i64 0, .int .i64 0, .int .i64 0, .int .i64 0, .int .i64 0, .int .i64 0, .int .i64 0, .slice none 0 0]) 11 104 Tryz.underlying27 iHi.out iH0.out iH1.out iH2.out rfl (by decide) ⟨bb, off, none⟩ n (flatE encB l) rfl HFl.out (HF.out _ K3.out) ⟨g3, 0, none⟩ 1 1 [.int .i64 x0, .int .i64 x1, .int .i64 x2, .int .i64 x3, .int .i64 x4, .int .i64 x5, .int .i64 x6, .int .i64 x7, .int .i64 x8, .int .i64 x9, .slice x10 x11 x12] rfl rfl (has_news HC3.out) HE1.out (by unfold maxLen; omega) (by omega) (by omega) ?_)
  intro v' w4 hown hM4
  have hown : w4.ownsRow w3.heap.size 43 11 v' (n + 1) (flatE encB L) := by rw [← HX.out]; exact hown
  obtain ⟨g, c', rfl, hbg, hc, hm, hrow⟩ := RowL.of_own encB_len (l := L) HLn.out hown (by omega)
  have M4 : Hid (Made w.heap.size w w4) := K3.out.then_ (hM4.low K3.out.1.size)
  have HR := hid hrow
  have hbg' : w.heap.size ≤ g := Nat.le_trans K3.out.1.size hbg
  clear hown hM4 hrow
  go_wp2_with fail
  refine NoPanic.normal ?_
  go_wp2_with fail
  go_ret
  exact ⟨some ⟨g, 0, none⟩, c', rfl, ⟨HLn.out, HR.out.lsT, hc, hm, .inr ⟨_, _, rfl⟩, fun b off s e => (by cases e; exact hbg'), fun _ => ⟨g, rfl, HR.out⟩⟩, M4.out⟩
theorem clipJ_none (w : World) : Calls Tryz.prog 123 #[.slice none 0 0] w fun e v => e = .returned (.slice none 0 0) ∧ w = v := by
 go_enter Tryz.func123, Tryz.ntmps123
 go_wp2_with fail
 go_ret
 exact ⟨rfl, rfl⟩
theorem clipJ_c (b off n c : Nat) (w : World) (hc : n ≤ c) (hm : c ≤ maxLen) : Calls Tryz.prog 123 #[.slice (some ⟨b, off, none⟩) n c] w fun e v => e = .returned (.slice (some ⟨b, off, none⟩) n n) ∧ w = v := by
 unfold maxLen at hm
 go_enter Tryz.func123, Tryz.ntmps123
 go_wp2_with fail
 go_ret
 exact ⟨rfl, rfl⟩
def alJ (x : Jt) (i : Nat) (v : World) (g e : Nat) : Prop := Has v g 36 (encJ x).toArray
theorem alJ_lasts (x : Jt) : MK.Lasts (alJ x) := fun i u v g e h hg k => h.stays k hg
theorem withJ_c (x : Jt) {l : List Jt} {ao : Option Addr} {n c : Nat} {w : World} (hn : l.length = n) (hmx : n ≤ 1073741823) (hl : LsT encJ 8 w ao l) (ho : SlOk ao n c) :
  Calls Tryz.prog 90 #[.slice ao n c, jtV x] w fun e v => ∃ ao' c', e = .returned (.slice ao' (n + 1) c') ∧ NewL encJ 8 36 w v ao' (n + 1) c' (l ++ [x]) ∧ Made w.heap.size w v := by
 obtain ⟨i0, hi, hz0, hz1, hz2⟩ := info_parts infoJ
 have iHi := hid hi; have iH0 := hid hz0; have iH1 := hid hz1; have iH2 := hid hz2
 have HN := hid hn
 have HL := hid (fun v (k : Made w.heap.size w v) => hl.below k.1)
 obtain ⟨hoc, hom, ho3⟩ := ho
 obtain ⟨W, eW⟩ : ∃ W, W = w.alloc (.cells (encJ x).toArray 36) := ⟨_, rfl⟩
 have KW : Hid (Made w.heap.size w W) := by unfold Hid; rw [eW]; exact (Made.rfl_ _ _).cells (Nat.le_refl _) _ _
 have HB : Hid (Has W w.heap.size 36 (encJ x).toArray) := by unfold Hid; rw [eW]; exact has_new _ _ _
 obtain ⟨g0, eg⟩ : ∃ g, w.heap.size = g := ⟨_, rfl⟩
 rw [eg] at HB
 clear hi hz0 hz1 hz2 hn hl
 have HX : Hid (flatE encJ l ++ encJ x = flatE encJ (l ++ [x])) := flatE_snoc l x
 have HE1 : Hid (∀ u ∈ encJ x, u.oneCell' = true) := encJ_one x
 have l0 : g0 < W.heap.size := HB.out.here
 have b0 : True := trivial
 clear b0
 have b0 := HB.out.at_ 0
 have b1 := HB.out.at_ 1
 have b2 := HB.out.at_ 2
 have b3 := HB.out.at_ 3
 have b4 := HB.out.at_ 4
 have b5 := HB.out.at_ 5
 have b6 := HB.out.at_ 6
 have b7 := HB.out.at_ 7
 obtain ⟨x0, x1, x2, x3, x4, x5, x6, x7⟩ := x
 simp only [encJ] at eW HB HE1
 simp [encJ] at b0 b1 b2 b3 b4 b5 b6 b7
 rcases ho3 with ⟨rfl, rfl, rfl⟩ | ⟨bb, off, rfl⟩
 ·have hX : Hid (([] : List Value) ++ encJ ⟨x0, x1, x2, x3, x4, x5, x6, x7⟩ = flatE encJ (l ++ [⟨x0, x1, x2, x3, x4, x5, x6, x7⟩])) := by
   have := HX.out
   rw [List.length_eq_zero_iff.1 HN.out] at this ⊢
   exact this
  have HLn : Hid ((l ++ [(⟨x0, x1, x2, x3, x4, x5, x6, x7⟩ : Jt)]).length = 0 + 1) := by unfold Hid; rw [List.length_append, HN.out]; rfl
  generalize l ++ [(⟨x0, x1, x2, x3, x4, x5, x6, x7⟩ : Jt)] = L at HX hX HLn ⊢
  go_enter Tryz.func90, Tryz.ntmps90
  go_upto_region 1 with fail
  rw [← eW]
  clear eW
  try rw [eg]
  refine MK.reg_mk (alJ (⟨x0, x1, x2, x3, x4, x5, x6, x7⟩ : Jt)) 4 [0, 1, 2, 3] [0, 1, 2] [3] [] (fun _ => []) (val := val1) (by kernel_rfl) (by kernel_rfl) ?hpunone ?_
  case hpunone => intro p hp; simp at hp
  refine MK.can_class (rest := [3]) [0, 1, 2] [] 10 (alJ_lasts _) (MK.any_class _) (by kernel_rfl) rfl (by kernel_rfl) (by kernel_rfl) ?_
  apply Exists.intro
  refine ⟨?q1none, ?q2none⟩
  case q1none =>
   intro Ty hT fw hf _
   have z0 := Class.reads hf b0
   have z1 := Class.reads hf b1
   have z2 := Class.reads hf b2
   have z3 := Class.reads hf b3
   have z4 := Class.reads hf b4
   have z5 := Class.reads hf b5
   have z6 := Class.reads hf b6
   have z7 := Class.reads hf b7
   change wpQuiet _ _ _ _ [_, _, _] _
   repeat (go_big_quiet_step ((go_at_call 123; exact hf.same (clipJ_none _))))
   exact wpQuiet_nil rfl
  refine MK.can_mk 3 8 _ rfl rfl rfl rfl ?m1none fun g3 e3 => ?m2none
  case m1none =>
   intro G' u _ hu
   rw [show (execOp _ _).run Tryz.prog u = .ok (.value (.slice (some ⟨u.heap.size, 0, none⟩) 1 1)) (u.alloc (.cells #[.int .i64 x0, .int .i64 x1, .int .i64 x2, .int .i64 x3, .int .i64 x4, .int .i64 x5, .int .i64 x6, .int .i64 x7] 36)) from by go_simp]
   exact ⟨u.heap.size, 0, rfl, hu.next (alJ_lasts _) ((Made.rfl_ _ _).cells (Nat.le_refl _) _ _) (Nat.le_refl _) (by simp) (has_new _ _ _)⟩
  rw [show val1 3 g3 e3 = .slice (some ⟨g3, 0, none⟩) 1 1 from rfl]
  simp only [Act.put, List.setIfInBounds_toArray, List.set_cons_succ, List.set_cons_zero]
  intro w3 hu
  obtain ⟨hg3, hg4, h3⟩ := hu.2.1 3 (g3, e3) (by unfold MK.upd; simp)
  have K3 := hid (KW.out.then_ (hu.1.low KW.out.1.size))
  have HM3 := hid hu.1
  have HC3 : Hid (Has w3 g3 36 #[.int .i64 x0, .int .i64 x1, .int .i64 x2, .int .i64 x3, .int .i64 x4, .int .i64 x5, .int .i64 x6, .int .i64 x7]) := h3
  clear hu h3 b0 b1 b2 b3 b4 b5 b6 b7
  simp only [List.drop_succ_cons, List.drop_zero]
  go_wp2_with (at_builtin; refine wpList_append_made _ rfl (.tmp 6) (.tmp 8) 28 rfl w3.heap.size 36 i0 (.agg #[.int .i64 0, .int .i64 0, .int .i64 0, .int .i64 0, .int .i64 0, .int .i64 0, .int .i64 0, .int .i64 0]) 8 64 Tryz.underlying28 iHi.out iH0.out iH1.out iH2.out rfl (by decide) (.slice none 0 0) 0 [] rfl (World.ownsRow_nil _ _ _ _) ⟨g3, 0, none⟩ 1 1 [.int .i64 x0, .int .i64 x1, .int .i64 x2, .int .i64 x3, .int .i64 x4, .int .i64 x5, .int .i64 x6, .int .i64 x7] rfl rfl (has_news HC3.out) HE1.out (by unfold maxLen; omega) (by omega) (Nat.le_refl _) (by omega) ?_)
  intro v' w4 hown hgr hfr
  have hM4 : Made w3.heap.size w3 w4 := (Made.rfl_ _ _).app hgr hfr (Nat.le_refl _) (fun j hj => by cases hj)
  have hown : w4.ownsRow w3.heap.size 36 8 v' (0 + 1) (flatE encJ L) := by rw [← hX.out]; exact hown
  clear hgr hfr
  obtain ⟨g, c', rfl, hbg, hc, hm, hrow⟩ := RowL.of_own encJ_len (l := L) HLn.out hown (by omega)
  have M4 : Hid (Made w.heap.size w w4) := K3.out.then_ (hM4.low K3.out.1.size)
  have HR := hid hrow
  have hbg' : w.heap.size ≤ g := Nat.le_trans K3.out.1.size hbg
  clear hown hM4 hrow
  go_wp2_with fail
  refine NoPanic.normal ?_
  go_wp2_with fail
  go_ret
  exact ⟨some ⟨g, 0, none⟩, c', rfl, ⟨HLn.out, HR.out.lsT, hc, hm, .inr ⟨_, _, rfl⟩, fun b off s e => (by cases e; exact hbg'), fun _ => ⟨g, rfl, HR.out⟩⟩, M4.out⟩
 ·have HLn : Hid ((l ++ [(⟨x0, x1, x2, x3, x4, x5, x6, x7⟩ : Jt)]).length = n + 1) := by unfold Hid; rw [List.length_append, HN.out]; rfl
  generalize l ++ [(⟨x0, x1, x2, x3, x4, x5, x6, x7⟩ : Jt)] = L at HX HLn ⊢
  have HF : Hid (∀ v, Made w.heap.size w v → ∀ j u, (flatE encJ l)[j]? = some u → v.cell? ((⟨bb, off, none⟩ : Addr).add j) = some u) := fun v k => by
   rcases Nat.eq_zero_or_pos l.length with h | h
   ·rw [List.length_eq_zero_iff.1 h]
    intro j u hu; simp [flatE] at hu
   ·obtain ⟨b', off', e, hb, hLB⟩ := HL.out v k h
    cases e
    exact LsB.newsL encJ_len hLB
  have HFl : Hid ((flatE encJ l).length = n * 8) := by unfold Hid; rw [flatE_len encJ_len, HN.out]
  go_enter Tryz.func90, Tryz.ntmps90
  go_upto_region 1 with fail
  rw [← eW]
  clear eW
  try rw [eg]
  refine MK.reg_mk (alJ (⟨x0, x1, x2, x3, x4, x5, x6, x7⟩ : Jt)) 4 [0, 1, 2, 3] [0, 1, 2] [3] [] (fun _ => []) (val := val1) (by kernel_rfl) (by kernel_rfl) ?hpusome ?_
  case hpusome => intro p hp; simp at hp
  refine MK.can_class (rest := [3]) [0, 1, 2] [] 10 (alJ_lasts _) (MK.any_class _) (by kernel_rfl) rfl (by kernel_rfl) (by kernel_rfl) ?_
  apply Exists.intro
  refine ⟨?q1some, ?q2some⟩
  case q1some =>
   intro Ty hT fw hf _
   have z0 := Class.reads hf b0
   have z1 := Class.reads hf b1
   have z2 := Class.reads hf b2
   have z3 := Class.reads hf b3
   have z4 := Class.reads hf b4
   have z5 := Class.reads hf b5
   have z6 := Class.reads hf b6
   have z7 := Class.reads hf b7
   change wpQuiet _ _ _ _ [_, _, _] _
   repeat (go_big_quiet_step ((go_at_call 123; exact hf.same (clipJ_c bb off n c _ hoc hom))))
   exact wpQuiet_nil rfl
  refine MK.can_mk 3 8 _ rfl rfl rfl rfl ?m1some fun g3 e3 => ?m2some
  case m1some =>
   intro G' u _ hu
   rw [show (execOp _ _).run Tryz.prog u = .ok (.value (.slice (some ⟨u.heap.size, 0, none⟩) 1 1)) (u.alloc (.cells #[.int .i64 x0, .int .i64 x1, .int .i64 x2, .int .i64 x3, .int .i64 x4, .int .i64 x5, .int .i64 x6, .int .i64 x7] 36)) from by go_simp]
   exact ⟨u.heap.size, 0, rfl, hu.next (alJ_lasts _) ((Made.rfl_ _ _).cells (Nat.le_refl _) _ _) (Nat.le_refl _) (by simp) (has_new _ _ _)⟩
  rw [show val1 3 g3 e3 = .slice (some ⟨g3, 0, none⟩) 1 1 from rfl]
  simp only [Act.put, List.setIfInBounds_toArray, List.set_cons_succ, List.set_cons_zero]
  intro w3 hu
  obtain ⟨hg3, hg4, h3⟩ := hu.2.1 3 (g3, e3) (by unfold MK.upd; simp)
  have K3 := hid (KW.out.then_ (hu.1.low KW.out.1.size))
  have HM3 := hid hu.1
  have HC3 : Hid (Has w3 g3 36 #[.int .i64 x0, .int .i64 x1, .int .i64 x2, .int .i64 x3, .int .i64 x4, .int .i64 x5, .int .i64 x6, .int .i64 x7]) := h3
  clear hu h3 b0 b1 b2 b3 b4 b5 b6 b7
  simp only [List.drop_succ_cons, List.drop_zero]
  go_wp2_with (at_builtin; refine wpList_append_full rfl (.tmp 6) (.tmp 8) 28 rfl 36 i0 (.agg #[.int .i64 0, .int .i64 0, .int .i64 0, .int .i64 0, .int .i64 0, .int .i64 0, .int .i64 0, .int .i64 0]) 8 64 Tryz.underlying28 iHi.out iH0.out iH1.out iH2.out rfl (by decide) ⟨bb, off, none⟩ n (flatE encJ l) rfl HFl.out (HF.out _ K3.out) ⟨g3, 0, none⟩ 1 1 [.int .i64 x0, .int .i64 x1, .int .i64 x2, .int .i64 x3, .int .i64 x4, .int .i64 x5, .int .i64 x6, .int .i64 x7] rfl rfl (has_news HC3.out) HE1.out (by unfold maxLen; omega) (by omega) (by omega) ?_)
  intro v' w4 hown hM4
  have hown : w4.ownsRow w3.heap.size 36 8 v' (n + 1) (flatE encJ L) := by rw [← HX.out]; exact hown
  obtain ⟨g, c', rfl, hbg, hc, hm, hrow⟩ := RowL.of_own encJ_len (l := L) HLn.out hown (by omega)
  have M4 : Hid (Made w.heap.size w w4) := K3.out.then_ (hM4.low K3.out.1.size)
  have HR := hid hrow
  have hbg' : w.heap.size ≤ g := Nat.le_trans K3.out.1.size hbg
  clear hown hM4 hrow
  go_wp2_with fail
  refine NoPanic.normal ?_
  go_wp2_with fail
  go_ret
  exact ⟨some ⟨g, 0, none⟩, c', rfl, ⟨HLn.out, HR.out.lsT, hc, hm, .inr ⟨_, _, rfl⟩, fun b off s e => (by cases e; exact hbg'), fun _ => ⟨g, rfl, HR.out⟩⟩, M4.out⟩
end Go.Proofs.YtjhcejmfiekjgaaGreat.Fx