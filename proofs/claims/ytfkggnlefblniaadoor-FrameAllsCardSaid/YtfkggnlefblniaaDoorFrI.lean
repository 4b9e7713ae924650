/- Layer 16: the iterator of package frame: each record at the beginning of what is left. -/
import Derived.RangeFuncNested
import Derived.RangeFuncBound
import Derived.RangeFuncCalls
import Derived.RangeFuncLeaves
import Derived.Shelf.Abstract
import Derived.Shelf.RegionOpen
import Derived.WalkKit
import Derived.OwnWalkIn
import Derived.TacticsInMore
import Derived.LoopNIn
import Derived.LoopIn
import Derived.Test.YtfkggnlefblniaaDoorFrC
import Derived.Test.YtfkggnlefblniaaDoorRfp
namespace Go.Proofs.YtfkggnlefblniaaDoor.Fx
open Go.ChangeShapes Go.WideShapes Go.ChangeAt Go.RowKit
set_option linter.unusedVariables false
attribute [local go_sem] Oper.semAt_some

/-- a record as it is handed on: its number, its payload, how many bytes it takes -/
structure Rc where
  num : Int
  ao : Option Addr
  s : Nat
  c : Nat
  pay : Nat → Nat
abbrev Tri := Int × Nat × (Nat → Nat)
def Rc.tri (x : Rc) : Tri := (x.num, x.s, x.pay)
instance (g : Nat → Nat) (n : Nat) (most : Int) : Decidable (IsRec g n most) := inferInstanceAs (Decidable (_ ∧ _))
/-- the records at the beginning of the n bytes g -/
def recsF (most : Int) : Nat → (Nat → Nat) → Nat → List Tri
  | 0, _, _ => []
  | f + 1, g, n => if IsRec g n most then (numF g, sizeF g, payF g) :: recsF most f (fun i => g (sizeF g + 20 + i)) (n - (sizeF g + 20)) else []
theorem recsF_yes {most : Int} {f n : Nat} {g : Nat → Nat} (h : IsRec g n most) : recsF most (f + 1) g n = (numF g, sizeF g, payF g) :: recsF most f (fun i => g (sizeF g + 20 + i)) (n - (sizeF g + 20)) := by
  show (if IsRec g n most then _ else _) = _
  rw [if_pos h]
theorem recsF_no {most : Int} {f n : Nat} {g : Nat → Nat} (h : ¬ IsRec g n most) : recsF most f g n = [] := by
  cases f with
  | zero => rfl
  | succ f =>
    show (if IsRec g n most then _ else _) = _
    rw [if_neg h]
abbrev encR (x : Rc) : Array Value := #[.agg #[.int .i64 x.num, .slice x.ao x.s x.c], .int .i64 ((x.s + 20 : Nat) : Int)]
/-- how many bytes they take -/
def sumE (l : List Rc) : Nat := (l.map fun x => x.s + 20).sum
theorem sumE_snoc (l : List Rc) (x : Rc) : sumE (l ++ [x]) = sumE l + (x.s + 20) := by simp [sumE]
def PhiR (n : Nat) (pre : List Rc) (x : Rc) (W : World) : Prop := OB W 0 (.slice x.ao x.s x.c) x.s x.pay ∧ sumE pre + (x.s + 20) ≤ n
/-- what a round keeps -/
def KeepR (n₀ Bb Bm : Nat) (W W' : World) : Prop := Below n₀ W W' ∧ W'.heap[Bb]? = W.heap[Bb]? ∧ W'.heap[Bm]? = W.heap[Bm]?
theorem KeepR.t {n₀ Bb Bm : Nat} {X Y Z : World} (h : KeepR n₀ Bb Bm X Y) (k : KeepR n₀ Bb Bm Y Z) : KeepR n₀ Bb Bm X Z := ⟨h.1.trans k.1, k.2.1.trans h.2.1, k.2.2.trans h.2.2⟩
theorem KeepR.rfl_ (n₀ Bb Bm : Nat) (W : World) : KeepR n₀ Bb Bm W W := ⟨Below.refl _ _, rfl, rfl⟩
theorem KeepR.of {n₀ Bb Bm : Nat} {X Y : World} (h : Below X.heap.size X Y) (h0 : n₀ ≤ X.heap.size) (h1 : Bb < X.heap.size) (h2 : Bm < X.heap.size) : KeepR n₀ Bb Bm X Y := ⟨h.mono h0, h.block _ h1, h.block _ h2⟩
theorem grown_of {X Y : World} (h : Below X.heap.size X Y) : X.grownBy Y none := ⟨h.os, h.tape, h.output, h.size, fun k hk _ => h.block k hk⟩
theorem By.at_below {w u : World} {ao : Option Addr} {n n₀ : Nat} {f : Nat → Nat} (h : By w ao n f) (hb : 0 < n → ∀ b off, ao = some ⟨b, off, none⟩ → b < n₀) (k : Below n₀ w u) : By u ao n f := fun hn => by
  obtain ⟨b, off, e, hc⟩ := h hn
  exact ⟨b, off, e, fun i hi => (k.cell (p := ⟨b, off + i, none⟩) (hb hn b off e)).trans (hc i hi)⟩
theorem Tab.at_below {w u : World} {n₀ : Nat} (h : Tab w) (h0 : 0 < n₀) (k : Below n₀ w u) : Tab u := fun i hi => (k.cell (p := ⟨0, i, none⟩) h0).trans (h i hi)

set_option maxRecDepth 100000 in
set_option maxHeartbeats 4000000 in
theorem records1_in (m l Bb Bm n₀ n c : Nat) (ao : Option Addr) (g : Nat → Nat) (most : Int) (hm : 1 ≤ m) (J : List Rc → World → Prop) (W : World) (hg : ∀ i, g i < 256) (hnc : n ≤ c) (hn : n ≤ 1099511627776) (hc47 : c ≤ 9223372036854775807) (hm1 : -9223372036854775808 ≤ most) (hm2 : most ≤ 9223372036854775807)
    (hn₀ : n₀ ≤ W.heap.size) (h0 : 0 < n₀) (hBb : Bb < W.heap.size) (hBm : Bm < W.heap.size) (hJ : AbidesFrom W.heap.size J)
    (hY : ∀ pre x W1, J pre W1 → PhiR n pre x W1 → pre.length < n / 20 → YieldAt Fence.wide (m - 1) Tryd.prog l (encR x) W1 fun e W' => e = .returned (.bool true) ∧ J (pre ++ [x]) W' ∧ KeepR n₀ Bb Bm W1 W')
    (zb : W.cell? ⟨Bb, 0, none⟩ = some (.slice ao n c)) (zm : W.cell? ⟨Bm, 0, none⟩ = some (.int .i64 most)) (hT : Tab W) (hB : By W ao n g) (hbl : 0 < n → ∀ b off, ao = some ⟨b, off, none⟩ → b < n₀) (hj : J [] W) :
    CallsIn Fence.wide m Tryd.prog 33 #[.func (.yield l) #[] #[], .pointer (some ⟨Bb, 0, none⟩), .pointer (some ⟨Bm, 0, none⟩)] W fun e W' => (∃ v, e = .returned v) ∧ ∃ xs, (xs.map Rc.tri = recsF most (n / 20) g n) ∧ J xs W' := by
  obtain ⟨N, eN⟩ : ∃ N, n / 20 = N := ⟨_, rfl⟩
  have eN2 : (n : Int).tdiv 20 = (N : Int) := by rw [Int.tdiv_eq_ediv_of_nonneg (by omega)]; omega
  have lN : N ≤ n := by omega
  rw [eN] at hY ⊢
  have HT := hid hT; have HB := hid hB; have HBL := hid hbl; have HF := hid hg; have HJ := hid hJ; have HY := hid hY; have HZb := hid zb; have HZm := hid zm; have HE := hid eN
  clear hT hB hbl hg eN
  refine callsIn_of_wp Tryd.func33 rfl trivial ?_ rfl
  simp only [Tryd.ntmps33, List.size_toArray, List.length_cons, List.length_nil, Nat.reduceAdd, Nat.reduceSub, Array.replicate_succ, Array.replicate_zero, List.push_toArray, List.append_toArray, List.nil_append, List.cons_append]
  gi_wp2
  clear zb zm
  gi_loopw [4, 12] (fun r i wr => ∃ (pre : List Rc) (p c' : Nat) (ao' : Option Addr), pre.length ≤ N ∧ p ≤ n ∧ p = sumE pre ∧ i = .int .i64 (pre.length : Nat) ∧ r = .slice ao' (n - p) c' ∧ n - p ≤ c' ∧ c' ≤ 9223372036854775807 ∧
      Hid (By W ao' (n - p) (fun i => g (p + i)) ∧ (0 < n - p → ∀ b off, ao' = some ⟨b, off, none⟩ → b < n₀)) ∧ Hid (pre.map Rc.tri ++ recsF most (N - pre.length) (fun i => g (p + i)) (n - p) = recsF most N g n) ∧ Hid (J pre wr ∧ KeepR n₀ Bb Bm W wr))
    (fun _ i _ => N - (intOf i).toNat)
  case atStart => exact ⟨[], 0, c, ao, Nat.zero_le _, Nat.zero_le _, rfl, rfl, rfl, hnc, hc47, ⟨by simpa using HB.out, HBL.out⟩, by unfold Hid; simp, hj, KeepR.rfl_ _ _ _ _⟩
  case round =>
    obtain ⟨pre, p, c', ao', hpl, hp, hps, rfl, rfl, hc', hc2, HA, HL, HT2⟩ := hrel
    have HPS := hid hps
    clear hps
    by_cases hlt : pre.length < N
    · have hlt2 : ((pre.length : Nat) : Int) < (N : Int) := by omega
      have TW := hid (HT.out.at_below h0 HT2.out.2.1)
      have BW := hid (HA.out.1.at_below HA.out.2 HT2.out.2.1)
      have zm : wr.cell? ⟨Bm, 0, none⟩ = some (.int .i64 most) := (World.cell?_of_block HT2.out.2.2.2).trans HZm.out
      have HSZ : Hid (W.heap.size ≤ wr.heap.size) := HT2.out.2.1.size
      have hnp : n - p ≤ 1099511627776 := by omega
      have HC := hid (callsIn_wide.2 (next_c (c := c') (most := most) (fun i => HF.out (p + i)) TW.out BW.out hc' hnp hm1 hm2) : CallsIn Fence.wide (m - 1) _ _ _ _ _)
      gi_wp2
      refine ⟨trivial, HC.out.mono ?_⟩
      rintro e w2 ⟨a, v, k, q, rfl, hq, ht, hf, hM⟩
      have HQ := hid hq
      have hkM : KeepR n₀ Bb Bm wr w2 := KeepR.of hM.1 (Nat.le_trans hn₀ HSZ.out) (Nat.lt_of_lt_of_le hBb HSZ.out) (Nat.lt_of_lt_of_le hBm HSZ.out)
      have hJ2 : J pre w2 := HJ.out _ _ _ none HT2.out.1 (grown_of hM.1) (by simp)
      cases q with
      | false =>
        obtain ⟨rfl, rfl, rfl⟩ := hf rfl
        have HN : Hid (¬ IsRec (fun i => g (p + i)) (n - p) most) := fun h => by have := HQ.out.2 h; cases this
        have HJ3 : Hid (J pre (w2.alloc (.cells #[Value.int .i64 0, Value.slice none 0 0] 28))) := HJ.out _ _ _ none hJ2 (World.grownBy_alloc _ _ _) (by simp)
        clear hq ht hf hM HQ hkM hJ2 HC
        gi_wp2
        refine ⟨fun f h => (by cases h), ?_⟩
        gi_wp2
        refine bodyPost_ret (results_none rfl _ _ _) rfl ?_
        exact ⟨⟨_, rfl⟩, pre, by have h := HL.out; rw [recsF_no HN.out, List.append_nil] at h; exact h, HJ3.out⟩
      | true =>
        obtain ⟨rfl, rfl, ao2, c2, rfl, hc2', hO⟩ := ht rfl
        have HR : Hid (IsRec (fun i => g (p + i)) (n - p) most) := HQ.out.1 rfl
        obtain ⟨s, es⟩ : ∃ s, sizeF (fun i => g (p + i)) = s := ⟨_, rfl⟩
        obtain ⟨a, ea⟩ : ∃ a, numF (fun i => g (p + i)) = a := ⟨_, rfl⟩
        obtain ⟨f2, ef⟩ : ∃ f2, payF (fun i => g (p + i)) = f2 := ⟨_, rfl⟩
        have hks : s + 20 ≤ n - p := by rw [← es]; exact HR.out.2.2.2.2.1
        have HL2 : Hid ((pre ++ [(⟨a, ao2, s, c2, f2⟩ : Rc)]).map Rc.tri ++ recsF most (N - (pre.length + 1)) (fun i => g (p + (s + 20) + i)) (n - (p + (s + 20))) = recsF most N g n) := by
          have h := HL.out
          rw [show N - pre.length = (N - (pre.length + 1)) + 1 by omega, recsF_yes HR.out, es, ea, ef, show n - p - (s + 20) = n - (p + (s + 20)) by omega] at h
          unfold Hid
          rw [← h]
          simp only [List.map_append, List.map_cons, List.map_nil, List.append_assoc, List.singleton_append, Rc.tri, Nat.add_assoc]
        rw [es, ef] at hO
        rw [es] at hc2'
        rw [es, ea]
        obtain ⟨V, eV⟩ : ∃ V, V = w2.alloc (.cells #[Value.int .i64 a, Value.slice ao2 s c2] 28) := ⟨_, rfl⟩
        have KV : Made w2.heap.size w2 V := by rw [eV]; exact (Made.rfl_ _ _).cells (Nat.le_refl _) _ _
        obtain ⟨G, eG⟩ : ∃ G, w2.heap.size = G := ⟨_, rfl⟩
        have HG : Has V G 28 #[.int .i64 a, .slice ao2 s c2] := by rw [eV, ← eG]; exact has_new _ _ _
        have z0 := HG.at_ 0
        have z1 := HG.at_ 1
        simp at z0 z1
        have HPh : Hid (PhiR n pre ⟨a, ao2, s, c2, f2⟩ V) := ⟨(hO.kept KV).low (Nat.zero_le _), by show sumE pre + (s + 20) ≤ n; rw [← HPS.out]; omega⟩
        have HPS2 : Hid (p + (s + 20) = sumE (pre ++ [(⟨a, ao2, s, c2, f2⟩ : Rc)])) := by unfold Hid; rw [sumE_snoc, ← HPS.out]
        have HJ3 : Hid (J pre V) := HJ.out _ _ _ none hJ2 (grown_of KV.1) (by simp)
        have HK3 : Hid (KeepR n₀ Bb Bm W V) := (HT2.out.2.t hkM).t (KeepR.of KV.1 (Nat.le_trans hn₀ (Nat.le_trans HSZ.out hM.1.size)) (Nat.lt_of_lt_of_le hBb (Nat.le_trans HSZ.out hM.1.size)) (Nat.lt_of_lt_of_le hBm (Nat.le_trans HSZ.out hM.1.size)))
        obtain ⟨fn, tmps, assign, body, hy, hR⟩ := HY.out pre ⟨a, ao2, s, c2, f2⟩ V HJ3.out HPh.out (by omega)
        have hy : (Instr.yield l #[.agg #[.int .i64 a, .slice ao2 s c2], .int .i64 ((s + 20 : Nat) : Int)]).run Tryd.prog V = _ := hy
        obtain ⟨k, ek⟩ : ∃ k, s + 20 = k := ⟨_, rfl⟩
        rw [ek] at hks HL2 hy HPS2
        rw [ek]
        have HRR := hid hR
        obtain ⟨b, off, rfl, hby⟩ := HA.out.1 (by omega)
        have hbn := HA.out.2 (by omega) b off rfl
        have HBY := hid hby
        have HBN := hid hbn
        clear hq ht hf hM HQ hkM hJ2 HC hR HJ3 KV HG hO es ea ef hby hbn HA
        have EV := hid eV
        rw [eV] at hy
        clear eV z0 z1 eG
        have HBN2 : Hid (∀ o', (o' = off + k ∨ n - p ≤ k) → By W (some ⟨b, o', none⟩) (n - (p + k)) fun i => g (p + k + i)) := fun o' ho hn' => by
          rcases ho with rfl | ho
          · refine ⟨b, off + k, rfl, fun i hi => ?_⟩
            have h := HBY.out (k + i) (by omega)
            rw [show off + k + i = off + (k + i) by omega]
            show _ = some (Value.int .u8 ((g (p + k + i) : Nat) : Int))
            rw [show p + k + i = p + (k + i) by omega]
            exact h
          · omega
        obtain ⟨o', ho', hoo⟩ : ∃ o', (if c' = k then some (⟨b, off, none⟩ : Addr) else some ⟨b, off + k, none⟩) = some ⟨b, o', none⟩ ∧ (o' = off + k ∨ n - p ≤ k) := by
          by_cases h : c' = k
          · exact ⟨off, by rw [if_pos h], .inr (by omega)⟩
          · exact ⟨off + k, by rw [if_neg h], .inl rfl⟩
        have HO' := hid ho'
        have HN2 := hid (HBN2.out o' hoo)
        clear ho' hoo HBN2
        gi_wp2
        rw [← EV.out]
        refine HRR.out.mono ?_
        rintro e W3 ⟨rfl, hJ4, hK4⟩
        have HJ4 := hid hJ4
        have HK4 := hid (HK3.out.t hK4)
        clear hJ4 hK4
        gi_wp2
        go_roundw
        case rel => exact ⟨pre ++ [⟨a, ao2, s, c2, f2⟩], p + k, c' - k, some ⟨b, o', none⟩, by simp; omega, by omega, HPS2.out, by simp, by rw [show n - (p + k) = n - p - k by omega, ← HO'.out], by omega, by omega, ⟨HN2.out, fun _ b' off' e => by cases e; exact HBN.out⟩, by rw [List.length_append, List.length_singleton]; exact HL2.out, HJ4.out, HK4.out⟩
        case measure => simp [intOf]; omega
    · have e : pre.length = N := by omega
      gi_wp2
      go_end0
      refine ⟨⟨_, rfl⟩, pre, ?_, HT2.out.1⟩
      have h := HL.out
      rw [e, Nat.sub_self] at h
      simpa [recsF] using h
end Go.Proofs.YtfkggnlefblniaaDoor.Fx
