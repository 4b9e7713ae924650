/- The statements' own tame. -/
import Derived.Test.YtmfkcdinfahjlaaSwT
import Derived.Test.YtmfkcdinfahjlaaSwB
import Derived.Deep.LoopGhost
import Derived.Deep.DeepCutAuto
import Derived.Deep.CutBlock
import Derived.LoopN
import Derived.WalkMore
namespace Go.Proofs.Ytmfkcdinfahjlaa.Fx
open Go.ChangeShapes Go.WideShapes Go.ChangeAt Go.RowKit
set_option linter.unusedVariables false

def tameI (i : Nat) (x : It) : It := ⟨x.id % 4096 * 256 + i, min x.lx x.hx, min x.ly x.hy, max x.lx x.hx, max x.ly x.hy, x.st⟩
def tameL : Nat → List It → List It
  | _, [] => []
  | i, x :: l => tameI i x :: tameL (i + 1) l
def tameF (most : Nat) (l : List It) : List It := tameL 0 (l.take most)
theorem tameL_len : ∀ (l : List It) (i : Nat), (tameL i l).length = l.length
  | [], _ => rfl
  | x :: l, i => by unfold tameL; rw [List.length_cons, List.length_cons, tameL_len l]
theorem tameL_snoc : ∀ (l : List It) (i : Nat) (x : It), tameL i (l ++ [x]) = tameL i l ++ [tameI (i + l.length) x]
  | [], i, x => rfl
  | y :: l, i, x => by
    show tameI i y :: tameL (i + 1) (l ++ [x]) = _
    rw [tameL_snoc l]
    show _ = tameI i y :: (tameL (i + 1) l ++ _)
    rw [List.length_cons, show i + 1 + l.length = i + (l.length + 1) by omega]
theorem tameL_mod : ∀ (l : List It) (i : Nat), i + l.length ≤ 256 → ∀ x ∈ tameL i l, (i : Int) ≤ x.id % 256 ∧ x.id % 256 < i + l.length
  | [], _, _, x, h => by simp [tameL] at h
  | y :: l, i, hl, x, h => by
    unfold tameL at h
    rw [List.length_cons] at hl ⊢
    rcases List.mem_cons.1 h with rfl | h
    · unfold tameI
      simp only []
      omega
    · have := tameL_mod l (i + 1) (by omega) x h
      omega
theorem tameL_apart : ∀ (l : List It) (i : Nat), i + l.length ≤ 256 → Apart (tameL i l)
  | [], _, _ => List.Pairwise.nil
  | y :: l, i, hl => by
    rw [List.length_cons] at hl
    refine List.pairwise_cons.2 ⟨fun b hb e => ?_, tameL_apart l (i + 1) (by omega)⟩
    have h1 := tameL_mod l (i + 1) (by omega) b hb
    have h2 : (tameI i y).id % 256 = i := by unfold tameI; simp only []; omega
    rw [e] at h2
    omega
theorem tameF_len (most : Nat) (l : List It) : (tameF most l).length = min most l.length := by
  unfold tameF; rw [tameL_len, List.length_take]
theorem tameF_apart {most : Nat} (h : most ≤ 256) (l : List It) : Apart (tameF most l) := by
  unfold tameF
  refine tameL_apart _ _ ?_
  rw [List.length_take]; omega
theorem tameL_i : ∀ (l : List It) (i : Nat), i + l.length ≤ 256 → ItsI l → ItsI (tameL i l)
  | [], _, _, _, x, h => by simp [tameL] at h
  | y :: l, i, hl, hI, x, h => by
    unfold tameL at h
    rw [List.length_cons] at hl
    rcases List.mem_cons.1 h with rfl | h
    · obtain ⟨h0, h1, h2, h3, h4⟩ := hI y (List.mem_cons_self ..)
      unfold I64 at h1 h2 h3 h4
      unfold tameI ItI I64
      simp only []
      refine ⟨?_, ?_, ?_, ?_, ?_⟩ <;> omega
    · exact tameL_i l (i + 1) (by omega) (fun z hz => hI z (List.mem_cons_of_mem _ hz)) x h
theorem tameF_i {most : Nat} (h : most ≤ 256) {l : List It} (hI : ItsI l) : ItsI (tameF most l) :=
  tameL_i _ _ (by rw [List.length_take]; omega) (fun x hx => hI x (List.mem_of_mem_take hx))

theorem and12 (x : Int) : bits .and .i64 x 4095 = x % 4096 := and_low x 12 (by omega)
theorem or_i64_nat (a b : Nat) (ha : a < 4611686018427387904) (hb : b < 4611686018427387904) : bits .or .i64 (a : Int) (b : Int) = ((a ||| b : Nat) : Int) := by
  have hx : a ||| b < 2 ^ 62 := Nat.or_lt_two_pow (by omega) (by omega)
  have h1 : (BitVec.ofInt 64 (a : Int)).toNat = a := by
    rw [BitVec.ofInt_natCast, BitVec.toNat_ofNat]; exact Nat.mod_eq_of_lt (by omega)
  have h2 : (BitVec.ofInt 64 (b : Int)).toNat = b := by
    rw [BitVec.ofInt_natCast, BitVec.toNat_ofNat]; exact Nat.mod_eq_of_lt (by omega)
  show IntKind.i64.wrap ((BitVec.ofInt 64 (a : Int) ||| BitVec.ofInt 64 (b : Int)).toNat : Int) = _
  rw [BitVec.toNat_or, h1, h2]
  simp [IntKind.wrap, IntKind.bits, IntKind.signed]
  omega
theorem or_low (y : Int) (k : Nat) (h0 : 0 ≤ y) (h1 : y < 4096) (hk : k < 256) : bits .or .i64 (y * 256) (k : Int) = y * 256 + k := by
  obtain ⟨a, rfl⟩ := Int.eq_ofNat_of_zero_le h0
  have e := or_i64_nat (2 ^ 8 * a) k (by omega) (by omega)
  rw [← Nat.two_pow_add_eq_or_of_lt (i := 8) (by omega) a] at e
  have c : ((2 ^ 8 * a : Nat) : Int) = (a : Int) * 256 := by omega
  rw [c] at e
  show bits .or .i64 ((a : Int) * 256) k = (a : Int) * 256 + k
  rw [e]
  omega
theorem news_six (W : World) (t : TypeId) (x : It) : ∀ j u, (encI x)[j]? = some u → (W.alloc (.cells (encI x).toArray t)).cell? ((⟨W.heap.size, 0, none⟩ : Addr).add j) = some u := by
  intro j u hj
  rw [Addr.add_lit, Nat.zero_add, (has_new W t _).at_]
  simpa using hj
theorem has_nxt (w : World) (o : Obj) (t : TypeId) (A : Array Value) : Has ((w.alloc o).alloc (.cells A t)) (w.heap.size + 1) t A := by simpa using has_new (w.alloc o) t A
set_option maxRecDepth 100000 in
set_option maxHeartbeats 8000000 in
theorem tame_c {l : List It} {ao : Option Addr} {c n m : Nat} (most : Nat) {w : World} (hn : l.length = n) (h : LsT encI 6 w ao l) (hc : n ≤ c) (hm : min n most = m) (hmost : most ≤ 64) (hI : ItsI l) :
    Calls Try.prog 18 #[.slice ao n c, .int .i64 most] w fun e w' => ∃ v, e = .returned v ∧ w'.ownsRow w.heap.size 61 6 v m (flatE encI (tameF most l)) ∧ Made w.heap.size w w' := by
  obtain ⟨i0, hi, hz0, hz1, hz2⟩ := info_parts info_It
  have iHi := hid hi; have iH0 := hid hz0; have iH1 := hid hz1; have iH2 := hid hz2
  have HI := hid hI
  have HN := hid hn
  have HL := hid h
  have HC := hid hc
  have HM := hid hm
  have hmm : (min (n : Int) (most : Int)) = (m : Int) := by omega
  have hmn : m ≤ n := by omega
  have hm64 : m ≤ 64 := by omega
  clear h hi hz0 hz1 hz2 hI hn hm
  go_enter Try.func18, Try.ntmps18
  go_wp2_with fail
  go_loopg [5, 17] m (fun g s5 s17 wx => ∃ k : Nat, k + g = m ∧ s17 = .int .i64 k ∧ Hid (wx.ownsRow w.heap.size 61 6 s5 k (flatE encI (tameL 0 (l.take k)))) ∧ Hid (Made w.heap.size w wx))
  case atStart => exact ⟨0, by omega, rfl, ⟨rfl, .inl ⟨rfl, rfl⟩⟩, Made.rfl_ _ _⟩
  case round =>
    obtain ⟨k, hk, rfl, HW, HMd⟩ := hrel
    by_cases hlt : k < m
    · obtain ⟨a, ea⟩ : ∃ a, l[k]? = some a := ⟨_, List.getElem?_eq_getElem (by rw [HN.out]; omega)⟩
      obtain ⟨b, off, rfl, hbl, hLB⟩ := HL.out (by rw [HN.out]; omega)
      obtain ⟨x0, x1, x2, x3, x4, x5⟩ := a
      obtain ⟨a0, a1, a2, a3, a4, a5⟩ := ((hLB.below HMd.out.1 hbl) k _ ea).i6
      obtain ⟨ii0, ii1, ii2, ii3, ii4⟩ := HI.out _ (List.mem_of_getElem? ea)
      simp only [] at a0 a1 a2 a3 a4 a5 ii0 ii1 ii2 ii3 ii4
      have EA := hid ea
      clear ea hLB
      obtain ⟨g0, eg⟩ : ∃ g, wr.heap.size = g := ⟨_, rfl⟩
      go_upto_region 5 with fail
      obtain ⟨W2, eW⟩ : ∃ V, V = wr.alloc (.cells #[.int .i64 x0, .int .i64 x1, .int .i64 x2, .int .i64 x3, .int .i64 x4, .bool x5] 61) := ⟨_, rfl⟩
      have HA : Hid (Has W2 g0 61 #[.int .i64 x0, .int .i64 x1, .int .i64 x2, .int .i64 x3, .int .i64 x4, .bool x5]) := by unfold Hid; rw [eW, ← eg]; exact has_new _ _ _
      have HW2 : Hid (W2.ownsRow w.heap.size 61 6 u5 k (flatE encI (tameL 0 (l.take k)))) := by unfold Hid; rw [eW]; exact HW.out.alloc _
      have HM2 : Hid (Made w.heap.size w W2) := by unfold Hid; rw [eW]; exact HMd.out.cells HMd.out.1.size _ _
      have hg0 : w.heap.size ≤ g0 := by rw [← eg]; exact HMd.out.1.size
      have hap : Hid (some g0 ≠ u5.ownBlock) := fun e => by have := (HW.out.lt g0 e.symm).2; omega
      rw [← eW]
      clear eW a0 a1 a2 a3 a4 a5 eg HW HMd
      have a1 := HA.out.at_ 1
      have a2 := HA.out.at_ 2
      have a3 := HA.out.at_ 3
      have a4 := HA.out.at_ 4
      simp at a1 a2 a3 a4
      have lg0 : g0 < W2.heap.size := HA.out.here
      go_cut [8, 9] (fun s8 s9 wx => ∃ g8 g9, s8 = .pointer (some ⟨g8, 0, none⟩) ∧ s9 = .pointer (some ⟨g9, 0, none⟩) ∧ Hid (Has wx g8 26 #[.int .i64 x1, .int .i64 x2]) ∧ Hid (Has wx g9 26 #[.int .i64 x3, .int .i64 x4]) ∧ Hid (Made W2.heap.size W2 wx))
      case first =>
        go_region
        · go_wp2_with fail
          go_meet
          exact ⟨W2.heap.size, W2.heap.size + 1, rfl, rfl, ((has_new _ _ _).more _).drawn 1, (has_nxt _ _ _ _).drawn 1, (((Made.rfl_ _ _).cells (Nat.le_refl _) _ _).cells (by simp) _ _).draws 1⟩
        · go_wp2_with fail
          go_meet
          exact ⟨W2.heap.size + 1, W2.heap.size, rfl, rfl, (has_nxt _ _ _ _).drawn 1, ((has_new _ _ _).more _).drawn 1, (((Made.rfl_ _ _).cells (Nat.le_refl _) _ _).cells (by simp) _ _).draws 1⟩
      obtain ⟨g8, g9, rfl, rfl, A8, A9, hM⟩ := hcut
      have HA3 := hid (HA.out.stays hM.out HA.out.here)
      have HW3 := hid (own_below (B := 0) HW2.out hM.out.1)
      have HM3 : Hid (Made w.heap.size w wc) := HM2.out.then_ (hM.out.low HM2.out.1.size)
      clear hM HA HW2 HM2 a1 a2 a3 a4 lg0
      obtain ⟨q1, f1⟩ : ∃ z, min x1 x3 = z := ⟨_, rfl⟩
      obtain ⟨q2, f2⟩ : ∃ z, min x2 x4 = z := ⟨_, rfl⟩
      obtain ⟨q3, f3⟩ : ∃ z, max x1 x3 = z := ⟨_, rfl⟩
      obtain ⟨q4, f4⟩ : ∃ z, max x2 x4 = z := ⟨_, rfl⟩
      have c0 := A8.out.at_ 0
      have c1 := A8.out.at_ 1
      have d0 := A9.out.at_ 0
      have d1 := A9.out.at_ 1
      simp at c0 c1 d0 d1
      have F1 := hid f1; have F2 := hid f2; have F3 := hid f3; have F4 := hid f4
      clear f1 f2 f3 f4
      go_wp2_with fail
      refine (join_w x1 x2 x1 x2 x3 x4 x3 x4 q1 q2 q3 q4 _ F1.out F2.out F3.out F4.out).mono ?_
      rintro e w4 ⟨rfl, k4⟩
      have HA4 := hid (HA3.out.stays k4 HA3.out.here)
      have HW4 := hid (own_below (B := 0) HW3.out k4.1)
      have HM4 : Hid (Made w.heap.size w w4) := HM3.out.then_ (k4.low HM3.out.1.size)
      clear k4 HA3 HW3 HM3 c0 c1 d0 d1 A8 A9
      have a0 := HA4.out.at_ 0
      have a1 := HA4.out.at_ 1
      have a2 := HA4.out.at_ 2
      have a3 := HA4.out.at_ 3
      have a4 := HA4.out.at_ 4
      have a5 := HA4.out.at_ 5
      have fr : ∀ i, w4.frozen? ⟨g0, i, none⟩ = false := HA4.out.free
      simp at a0 a1 a2 a3 a4 a5
      obtain ⟨y, ey⟩ : ∃ y, x0 % 4096 = y := ⟨_, rfl⟩
      have hy0 : 0 ≤ y := by omega
      have hy1 : y < 4096 := by omega
      have e1 : bits BinOp.and IntKind.i64 x0 4095 = y := (and12 x0).trans ey
      obtain ⟨q0, eq⟩ : ∃ q, y * 256 + k = q := ⟨_, rfl⟩
      have e3 : bits BinOp.or IntKind.i64 (y * 256) (k : Int) = q0 := by rw [or_low y k hy0 hy1 (by omega)]; exact eq
      have ET : Hid (tameI k ⟨x0, x1, x2, x3, x4, x5⟩ = ⟨q0, q1, q2, q3, q4, x5⟩) := by
        unfold Hid tameI
        simp only []
        rw [ey, eq, F1.out, F2.out, F3.out, F4.out]
      clear ey eq
      go_upto_region 8 with fail
      obtain ⟨W5, eW⟩ : ∃ V, V = ((((w4.setCell ⟨g0, 1, none⟩ (.int .i64 q1)).setCell ⟨g0, 2, none⟩ (.int .i64 q2)).setCell ⟨g0, 3, none⟩ (.int .i64 q3)).setCell ⟨g0, 4, none⟩ (.int .i64 q4)).setCell ⟨g0, 0, none⟩ (.int .i64 q0) := ⟨_, rfl⟩
      have HA5 : Hid (Has W5 g0 61 #[.int .i64 q0, .int .i64 q1, .int .i64 q2, .int .i64 q3, .int .i64 q4, .bool x5]) := by
        unfold Hid
        rw [eW]
        exact ((((HA4.out.put 1 _).put 2 _).put 3 _).put 4 _).put 0 _
      have HW5 : Hid (W5.ownsRow w.heap.size 61 6 u5 k (flatE encI (tameL 0 (l.take k)))) := by
        unfold Hid
        rw [eW]
        have hh := hap.out
        exact own_other' (own_other' (own_other' (own_other' (own_other' HW4.out (p := ⟨g0, 1, none⟩) (fun e => hh e.symm) _) (p := ⟨g0, 2, none⟩) (fun e => hh e.symm) _) (p := ⟨g0, 3, none⟩) (fun e => hh e.symm) _) (p := ⟨g0, 4, none⟩) (fun e => hh e.symm) _) (p := ⟨g0, 0, none⟩) (fun e => hh e.symm) _
      have HM5 : Hid (Made w.heap.size w W5) := by
        unfold Hid
        rw [eW]
        exact ((((HM4.out.put (by exact hg0) _).put (by exact hg0) _).put (by exact hg0) _).put (by exact hg0) _).put (by exact hg0) _
      rw [← eW]
      clear eW a0 a1 a2 a3 a4 a5 fr HA4 HW4 HM4 e1 e3
      have a0 := HA5.out.at_ 0
      have a1 := HA5.out.at_ 1
      have a2 := HA5.out.at_ 2
      have a3 := HA5.out.at_ 3
      have a4 := HA5.out.at_ 4
      have a5 := HA5.out.at_ 5
      simp at a0 a1 a2 a3 a4 a5
      have hbase : w.heap.size ≤ W5.heap.size := HM5.out.1.size
      have HSV : Hid (∀ b, u5.ownBlock = some b → w.heap.size ≤ b) := fun b hb => (HW5.out.lt b hb).1
      go_wp2_with (at_builtin; refine wpList_append_made _ rfl (.tmp 43) (.tmp 45) 52 rfl w.heap.size 61 i0 (.agg #[.int .i64 0, .int .i64 0, .int .i64 0, .int .i64 0, .int .i64 0, .bool false]) 6 48 Try.underlying52 iHi.out iH0.out iH1.out iH2.out rfl (by decide) u5 k (flatE encI (tameL 0 (l.take k))) rfl (HW5.out.alloc _) ⟨W5.heap.size, 0, none⟩ 1 1 [.int .i64 q0, .int .i64 q1, .int .i64 q2, .int .i64 q3, .int .i64 q4, .bool x5] rfl rfl (news_six _ _ ⟨q0, q1, q2, q3, q4, x5⟩) (encI_one ⟨q0, q1, q2, q3, q4, x5⟩) (by unfold maxLen; omega) (by omega) (by simp; omega) (by omega) ?_)
      intro v' wk hown hgr hfr
      have HM6 : Hid (Made w.heap.size w wk) := (HM5.out.cells hbase _ _).app hgr hfr (by simp; omega) (fun b hb => HSV.out b hb)
      have HW6 : Hid (wk.ownsRow w.heap.size 61 6 v' (k + 1) (flatE encI (tameL 0 (l.take (k + 1))))) := by
        unfold Hid
        have e : l.take (k + 1) = l.take k ++ [⟨x0, x1, x2, x3, x4, x5⟩] := by
          rw [List.take_add_one, EA.out]; rfl
        rw [e, tameL_snoc, List.length_take, show 0 + min k l.length = k by have := HN.out; omega, ET.out, ← flatE_snoc]
        exact hown
      clear hown hgr hfr a0 a1 a2 a3 a4 a5
      go_wp2_with fail
      go_roundg (m - (k + 1))
      case rel => exact ⟨k + 1, by omega, by go_num, HW6, HM6⟩
      case measure => omega
    · go_wp2_with fail
      go_ret
      have e : k = m := by omega
      subst e
      exact ⟨_, rfl, by unfold tameF; rw [show l.take most = l.take k from by rw [List.take_eq_take_iff]; have := HM.out; have := HN.out; omega]; exact HW.out, HMd.out⟩
end Go.Proofs.Ytmfkcdinfahjlaa.Fx
