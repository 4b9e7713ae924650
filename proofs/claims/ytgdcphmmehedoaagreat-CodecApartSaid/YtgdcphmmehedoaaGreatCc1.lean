/- CrP CrQ CrA CrB CrC CrD CrE PaA PaB PaC -/
import Derived.Test.YtgdcphmmehedoaaGreatCc0
import Derived.Laws.BitsAllLaws
import Derived.Laws.BytesString
import Derived.Lib.LaidTab
import Derived.Deep.DeepCutAuto
import Derived.Lib.AppendZeros
import Derived.OwnWalk
import Derived.Lib.SmallJoins
import Derived.Laws.Strings
set_option maxRecDepth 100000
set_option maxHeartbeats 64000000
/- Checksums, plainly: the register, its steps, streams of bits. No Go. -/
namespace Go.Proofs.YtgdcphmmehedoaaGreat.Fx
set_option linter.unusedVariables false
def poly : Nat := 3988292384
def ones : Nat := 4294967295
def step (r : Nat) : Nat := (r / 2) ^^^ (if r % 2 = 1 then poly else 0)
def steps : Nat → Nat → Nat
 | 0, r => r
 | n + 1, r => step (steps n r)
def tabC : List Nat := [0, 498536548, 997073096, 651767980, 1994146192, 1802195444, 1303535960, 1342533948, 3988292384, 4027552580, 3604390888, 3412177804, 2607071920, 2262029012, 2685067896, 3183342108]
def byteIn (r c : Nat) : Nat := steps 8 (r ^^^ c)
def reg (f : Nat → Nat) (r : Nat) : Nat → Nat
 | 0 => r
 | n + 1 => byteIn (reg f r n) (f n)
def breg (b : Nat → Bool) (r : Nat) : Nat → Nat
 | 0 => r
 | n + 1 => step (breg b r n ^^^ (b n).toNat)
def bitOf (f : Nat → Nat) (i : Nat) : Bool := (f (i / 8)).testBit (i % 8)
def sumB (f : Nat → Nat) (n : Nat) : Nat := reg f ones n ^^^ ones
def word (f : Nat → Nat) : Nat → Nat
 | 0 => 0
 | n + 1 => word f n ||| (f n <<< (8 * n))
def sealB (f : Nat → Nat) (n i : Nat) : Nat := if i < n then f i else if i < n + 4 then sumB f n / 2 ^ (8 * (i - n)) % 256 else 0
end Go.Proofs.YtgdcphmmehedoaaGreat.Fx
/- Checksums, plainly: the division of polynomials, bits inverted, bits counted, bytes as strings. No Go. -/
namespace Go.Proofs.YtgdcphmmehedoaaGreat.Fx
set_option linter.unusedVariables false
def pw : List Nat := [32, 26, 23, 22, 16, 12, 11, 10, 8, 7, 5, 4, 2, 1, 0]
def flips (B : Nat → Bool) (i : Nat) : Nat → Nat → Bool
 | 0, k => B k
 | m + 1, k => if k = i + 32 - pw.getD m 0 then !(flips B i m k) else flips B i m k
def fl : Nat → Nat → Bool
 | 0, j => false
 | m + 1, j => if j = 32 - pw.getD m 0 then !(fl m j) else fl m j
def divB (B : Nat → Bool) : Nat → Nat → Bool
 | 0 => B
 | i + 1 => if divB B i i = true then flips (divB B i) i 15 else divB B i
def dataB (f : Nat → Nat) (n k : Nat) : Bool := decide (k < 8 * n) && bitOf f k
def startB (f : Nat → Nat) (n k : Nat) : Bool := dataB f n k ^^ decide (k < 32)
def outB (B : Nat → Bool) : Nat → Nat
 | 0 => 0
 | m + 1 => outB B m ||| ((!B m).toNat <<< m)
def addB (s : Nat) (f : Nat → Nat) (n : Nat) : Nat := reg f (s ^^^ ones) n ^^^ ones
def joinB (f g : Nat → Nat) (n i : Nat) : Nat := if i < n then f i else g (i - n)
def bendE (at_ : Int) (mask m k : Nat) : Bool := decide (at_ ≤ k ∧ (k : Int) < at_ + m) && mask.testBit ((k : Int) - at_).toNat
def bendB (f : Nat → Nat) (at_ : Int) (mask : Nat) : Nat → Nat → Nat
 | 0, j => f j
 | i + 1, j => if mask.testBit i = true ∧ (8 * j : Int) ≤ at_ + i ∧ at_ + i < 8 * j + 8 then bendB f at_ mask i j ^^^ 2 ^ (at_ + i - 8 * j).toNat else bendB f at_ mask i j
def apartB (f : Nat → Nat) (k : Nat) (x : Nat → Nat) (m i : Nat) : Nat := if k ≤ i ∧ i < k + m then f i ^^^ x (i - k) else f i
def cnt (d : Nat → Bool) : Nat → Nat
 | 0 => 0
 | n + 1 => cnt d n + (d n).toNat
def part8 (f g : Nat → Nat) : Nat → Nat
 | 0 => 0
 | n + 1 => part8 f g n + cnt (fun t => (f n ^^^ g n).testBit t) 8
def strB (f : Nat → Nat) (n : Nat) : ByteArray := ((List.range n).map fun i => ((f i : Nat) : Int)).foldl (fun r k => r.push (UInt8.ofNat k.toNat)) ByteArray.empty
theorem strB_next (f : Nat → Nat) (n : Nat) : strB f (n + 1) = (strB f n).push (UInt8.ofNat (f n)) := by
 unfold strB
 rw [List.range_succ, List.map_append, List.foldl_append]
 rfl
theorem strB_size (f : Nat → Nat) (n : Nat) : (strB f n).size = n := by
 induction n with
 | zero => rfl
 | succ n ih => rw [strB_next, ByteArray.size_push, ih]
theorem push_inj {a b : ByteArray} {x y : UInt8} (h : a.push x = b.push y) : a = b ∧ x = y := by
 cases a with | mk a => cases b with | mk b =>
 have h' : a.push x = b.push y := congrArg ByteArray.data h
 obtain ⟨h1, h2⟩ := Array.push_eq_push.1 h'
 exact ⟨by rw [h2], h1⟩
theorem strB_ext {f g : Nat → Nat} (hf : ∀ i, f i < 256) (hg : ∀ i, g i < 256) (n : Nat) : strB f n = strB g n ↔ ∀ i, i < n → f i = g i := by
 induction n with
 | zero => exact ⟨fun _ i hi => absurd hi (by omega), fun _ => rfl⟩
 | succ n ih =>
  rw [strB_next, strB_next]
  constructor
  ·intro h i hi
   obtain ⟨h1, h2⟩ := push_inj h
   by_cases e : i = n
   ·subst e
    have := congrArg UInt8.toNat h2
    rw [UInt8.toNat_ofNat', UInt8.toNat_ofNat'] at this
    have a := hf i; have b := hg i
    omega
   ·exact ih.1 h1 i (by omega)
  ·intro h
   rw [ih.2 fun i hi => h i (by omega), h n (by omega)]
theorem strB_len {f g : Nat → Nat} {n m : Nat} (h : strB f n = strB g m) : n = m := by rw [← strB_size f n, h, strB_size]
end Go.Proofs.YtgdcphmmehedoaaGreat.Fx
/- Contracts of package crc: checksums. -/
namespace Go.Proofs.YtgdcphmmehedoaaGreat.Fx
open Go.ChangeShapes Go.WideShapes Go.ChangeAt Go.RowKit
set_option linter.unusedVariables false
theorem cret_i {k : IntKind} {a b : Int} (h : a = b) : Ending.returned (.int k a) = .returned (.int k b) := by rw [h]
def By (w : World) (ao : Option Addr) (n : Nat) (f : Nat → Nat) : Prop := 0 < n → ∃ b off, ao = some ⟨b, off, none⟩ ∧ ∀ i, i < n → w.cell? ⟨b, off + i, none⟩ = some (.int .u8 (f i : Nat))
def Tab (w : World) : Prop := ∀ i, i < 16 → w.cell? ⟨0, i, none⟩ = some (.int .u32 (tabC.getD i 0 : Nat))
end Go.Proofs.YtgdcphmmehedoaaGreat.Fx
/- Bytes that a call owns: a row, an append to it, a byte of it written. -/
namespace Go.Proofs.YtgdcphmmehedoaaGreat.Fx
open Go.ChangeShapes Go.WideShapes Go.ChangeAt Go.RowKit
set_option linter.unusedVariables false
def bl (f : Nat → Nat) (n : Nat) : List Value := (List.range n).map fun i => Value.int .u8 (f i : Nat)
theorem bl_len (f : Nat → Nat) (n : Nat) : (bl f n).length = n := by simp [bl]
theorem bl_at (f : Nat → Nat) {n j : Nat} (h : j < n) : (bl f n)[j]? = some (.int .u8 (f j : Nat)) := by simp [bl, h]
theorem bl_one (f : Nat → Nat) (n : Nat) : ∀ u ∈ bl f n, u.oneCell' = true := by
 intro u hu
 obtain ⟨j, _, rfl⟩ := List.mem_map.1 hu
 rfl
theorem bl_congr {f g : Nat → Nat} {n : Nat} (h : ∀ i, i < n → f i = g i) : bl f n = bl g n := by
 refine List.map_congr_left fun i hi => ?_
 rw [h i (List.mem_range.1 hi)]
theorem bl_join (f g : Nat → Nat) (n m : Nat) : bl f n ++ bl g m = bl (joinB f g n) (n + m) := by
 apply List.ext_getElem?
 intro j
 by_cases h1 : j < n
 ·rw [List.getElem?_append_left (by rw [bl_len]; exact h1), bl_at f h1, bl_at _ (show j < n + m by omega)]
  unfold joinB; rw [if_pos h1]
 ·rw [List.getElem?_append_right (by rw [bl_len]; omega), bl_len]
  by_cases h2 : j < n + m
  ·rw [bl_at g (show j - n < m by omega), bl_at _ h2]
   unfold joinB; rw [if_neg h1]
  ·rw [List.getElem?_eq_none (by rw [bl_len]; omega), List.getElem?_eq_none (by rw [bl_len]; omega)]
def OB (w : World) (base : Nat) (v : Value) (n : Nat) (f : Nat → Nat) : Prop := w.ownsRow base 5 1 v n (bl f n)
theorem OB.shape {w : World} {base n : Nat} {v : Value} {f : Nat → Nat} (h : OB w base v n f) : ∃ ao c, v = .slice ao n c ∧ n ≤ c ∧ c ≤ maxLen ∧ (0 < n → ∃ g, ao = some ⟨g, 0, none⟩ ∧ base ≤ g ∧ g < w.heap.size ∧ ∀ i, w.frozen? ⟨g, i, none⟩ = false) := by
 rcases h.2 with ⟨rfl, rfl⟩ | ⟨g, cap, cur, rfl, hb, hg, hc, hm, _⟩
 ·exact ⟨none, 0, rfl, by omega, by unfold maxLen; omega, fun h => absurd h (by omega)⟩
 ·have hh : Has w g 5 cur := hg
  exact ⟨_, _, rfl, hc, hm, fun _ => ⟨g, rfl, hb, hh.here, fun i => hh.free i⟩⟩
theorem OB.by_ {w : World} {base n c : Nat} {ao : Option Addr} {f : Nat → Nat} (h : OB w base (.slice ao n c) n f) : By w ao n f := by
 intro hn
 rcases h.2 with ⟨_, rfl⟩ | ⟨g, cap, cur, e, hb, hg, hc, hm, hs, ht⟩
 ·omega
 ·cases e
  refine ⟨g, 0, rfl, fun i hi => ?_⟩
  have hh : Has w g 5 cur := hg
  rw [Nat.zero_add, hh.at_ i]
  have := bl_at f hi
  rw [← ht, List.getElem?_take, if_pos (by omega)] at this
  simpa using this
theorem OB.nil (w : World) (base : Nat) (f : Nat → Nat) : OB w base (.slice none 0 0) 0 f := World.ownsRow_nil _ _ _ _
theorem OB.congr {w : World} {base n : Nat} {v : Value} {f g : Nat → Nat} (h : OB w base v n f) (e : ∀ i, i < n → f i = g i) : OB w base v n g := by
 unfold OB; rw [← bl_congr e]; exact h
theorem OB.kept {w u : World} {base n : Nat} {v : Value} {f : Nat → Nat} (h : OB w base v n f) (k : Made w.heap.size w u) : OB u base v n f := own_stays h k
theorem OB.low {w : World} {base base' n : Nat} {v : Value} {f : Nat → Nat} (h : OB w base v n f) (hb : base' ≤ base) : OB w base' v n f := by
 refine ⟨h.1, h.2.imp id ?_⟩
 rintro ⟨g, cap, cur, e, hg, r⟩
 exact ⟨g, cap, cur, e, Nat.le_trans hb hg, r⟩
theorem By.kept {w u : World} {ao : Option Addr} {n : Nat} {f : Nat → Nat} (h : By w ao n f) (k : Made w.heap.size w u) : By u ao n f := fun hn => by
 obtain ⟨b, off, e, hc⟩ := h hn
 exact ⟨b, off, e, fun i hi => k.reads (hc i hi)⟩
theorem By.stays {w u : World} {ao : Option Addr} {n : Nat} {f : Nat → Nat} (h : By w ao n f) {B : Nat} (k : Made B w u) (hb : ∀ b off, ao = some ⟨b, off, none⟩ → b < B) : By u ao n f := fun hn => by
 obtain ⟨b, off, e, hc⟩ := h hn
 exact ⟨b, off, e, fun i hi => (k.1.cell (hb b off e)).trans (hc i hi)⟩
theorem By.below {w : World} {ao : Option Addr} {n : Nat} {f : Nat → Nat} (h : By w ao n f) (hn : 0 < n) : ∃ b off, ao = some ⟨b, off, none⟩ ∧ b < w.heap.size := by
 obtain ⟨b, off, e, hc⟩ := h hn
 exact ⟨b, off, e, World.block_lt_of_cell? (a := ⟨b, off + 0, none⟩) w (hc 0 hn)⟩
theorem By.congr {w : World} {ao : Option Addr} {n : Nat} {f g : Nat → Nat} (h : By w ao n f) (e : ∀ i, i < n → f i = g i) : By w ao n g := fun hn => by
 obtain ⟨b, off, e1, hc⟩ := h hn
 exact ⟨b, off, e1, fun i hi => by rw [hc i hi, e i hi]⟩
theorem Tab.kept {w u : World} (h : Tab w) (k : Made w.heap.size w u) : Tab u := fun i hi => k.reads (h i hi)
theorem OB.set {w : World} {base n g c i : Nat} {f : Nat → Nat} (h : OB w base (.slice (some ⟨g, 0, none⟩) n c) n f) (hi : i < n) (x : Nat) :
  OB (w.setCell ⟨g, i, none⟩ (.int .u8 (x : Nat))) base (.slice (some ⟨g, 0, none⟩) n c) n (fun j => if j = i then x else f j) := by
 rcases h.2 with ⟨e, _⟩ | ⟨g', cap, cur, e, hb, hg, hc, hm, hs, ht⟩
 ·cases e
 ·cases e
  have hh : Has w g 5 cur := hg
  refine ⟨by rw [bl_len, Nat.mul_one], .inr ⟨g, c, _, rfl, hb, hh.put i _, hc, hm, by simpa using hs, ?_⟩⟩
  apply List.ext_getElem?
  intro j
  rw [List.getElem?_take]
  by_cases hj : j < n
  ·rw [if_pos (by omega), bl_at _ hj]
   have hold := bl_at f hj
   rw [← ht, List.getElem?_take, if_pos (by omega)] at hold
   by_cases e : i = j
   ·subst e
    have hl : i < cur.size := by rw [hs]; omega
    simp [hl]
   ·rw [if_neg (fun h => e h.symm), Array.toList_setIfInBounds, List.getElem?_set, if_neg e]
    exact hold
  ·rw [if_neg (by omega), List.getElem?_eq_none (by rw [bl_len]; omega)]
theorem info8 : (Tryz.prog.info? 5).map (fun i => (i.zero, i.size, i.bytes)) = some (some (.int .u8 0), 1, 1) := by kernel_rfl
section
variable {P : Program}
theorem append_none (w : World) (base : Nat) (t ty e : TypeId) (i : TypeInfo) (size : Nat) (ht : P.underlying t = some (.slice e)) (hi : P.info? e = some i) (v : Value) (n : Nat) (xs : List Value) (hown : w.ownsRow base e size v n xs) (ao : Option Addr) (c : Nat) :
  (Builtin.append_ #[t, t] ty #[v, .slice ao 0 c]).run P w = .ok v w := by
 have hf : (Builtin.firstCells i.size 0 (.slice ao 0 c)).run P w = .ok #[] w := by
  cases ao with
  | none => simp [Builtin.firstCells, Sem.run_pure]
  | some a => exact run_firstCells_some w i.size 0 a 0 c [] (by simp) (by simp)
 rcases hown.2 with ⟨rfl, rfl⟩ | ⟨g, cap, cur, rfl, _, _, hnc, _⟩
 ·simp [Builtin.append_, run_underlying ht, sizeOf, typeInfo, hi, Builtin.lenOf, hf]
 ·simp [Builtin.append_, run_underlying ht, sizeOf, typeInfo, hi, Builtin.lenOf, hf, hnc, storeCells]
end
theorem append_by {w : World} {base n m c : Nat} {v : Value} {ao : Option Addr} {f g : Nat → Nat} (ty : TypeId) (hown : OB w base v n f) (hx : By w ao m g) (h63 : n + m ≤ 1099511627776) (hbase : base ≤ w.heap.size) :
  ∃ v' w', (Builtin.append_ #[40, 40] ty #[v, .slice ao m c]).run Tryz.prog w = .ok v' w' ∧ OB w' base v' (n + m) (joinB f g n) ∧ w.grownBy w' v.ownBlock ∧ (∀ p, w'.frozen? p = w.frozen? p) := by
 obtain ⟨i, hi, hz0, hz1, hz2⟩ := info_parts info8
 by_cases hm : m = 0
 ·subst hm
  refine ⟨v, w, append_none w base _ _ _ i 1 Tryz.underlying40 hi v n _ hown ao c, ?_, ⟨rfl, rfl, rfl, Nat.le_refl _, fun _ _ _ => rfl⟩, fun _ => rfl⟩
  exact hown.congr fun j hj => by unfold joinB; rw [if_pos hj]
 ·obtain ⟨b, off, rfl, hc⟩ := hx (by omega)
  have hnews : ∀ j u, (bl g m)[j]? = some u → w.cell? ((⟨b, off, none⟩ : Addr).add j) = some u := by
   intro j u hu
   have hj : j < m := by
    rcases Nat.lt_or_ge j m with h | h
    ·exact h
    ·rw [List.getElem?_eq_none (by rw [bl_len]; exact h)] at hu; cases hu
   rw [bl_at g hj] at hu
   cases hu
   rw [Addr.add_lit]
   exact hc j hj
  obtain ⟨v', w', hr, h2, h3, _⟩ := run_append_own (P := Tryz.prog) w base 40 ty 5 i (.int .u8 0) 1 1 Tryz.underlying40 hi hz0 hz1 hz2 rfl (by omega) v n (bl f n) hown ⟨b, off, none⟩ m c (bl g m) (by rw [bl_len, Nat.mul_one]) hnews (bl_one g m) (by unfold maxLen; omega) (by omega) hbase
  have hf := append_frozen (P := Tryz.prog) w base 40 ty 5 i (.int .u8 0) 1 1 Tryz.underlying40 hi hz0 hz1 hz2 (by omega) v n (bl f n) hown ⟨b, off, none⟩ m c (bl g m) (by rw [bl_len, Nat.mul_one]) hnews (bl_one g m) (by unfold maxLen; omega) (by omega) (by omega) hr
  refine ⟨v', w', hr, ?_, h3, hf⟩
  unfold OB
  rw [← bl_join]
  exact h2
theorem append_copy {w : World} {m c : Nat} {ao : Option Addr} {g : Nat → Nat} (ty : TypeId) (hx : By w ao m g) (h63 : m ≤ 1099511627776) :
  ∃ v' w', (Builtin.append_ #[40, 40] ty #[.slice none 0 0, .slice ao m c]).run Tryz.prog w = .ok v' w' ∧ OB w' w.heap.size v' m g ∧ Made w.heap.size w w' := by
 obtain ⟨v', w', hr, h1, h2, h3⟩ := append_by (f := g) (c := c) ty (OB.nil w w.heap.size g) hx (by omega) (Nat.le_refl _)
 rw [Nat.zero_add] at h1
 refine ⟨v', w', hr, h1.congr fun i hi => ?_, (Made.rfl_ _ _).app h2 h3 (Nat.le_refl _) fun k hk => by cases hk⟩
 unfold joinB; rw [if_neg (by omega), Nat.sub_zero]
end Go.Proofs.YtgdcphmmehedoaaGreat.Fx
/- Contracts of package crc: Sum, stored, copied, invert, Bend. -/
namespace Go.Proofs.YtgdcphmmehedoaaGreat.Fx
open Go.ChangeShapes Go.WideShapes Go.ChangeAt Go.RowKit
set_option linter.unusedVariables false
def invF (f : Nat → Nat) (bit : Int) (j : Nat) : Nat := if (8 * j : Int) ≤ bit ∧ bit < 8 * j + 8 then f j ^^^ 2 ^ (bit - 8 * j).toNat else f j
theorem cvoid_end {P : Program} {fn : Func} {R : Ending → World → Prop} {a : Act} {w : World} (h : fn.results = #[]) (hd : a.defers = []) (hR : R (.returned (.tuple #[])) w) : bodyPost P fn R .normal a w := bodyPost_end (results_none h _ _ _) hd hR
end Go.Proofs.YtgdcphmmehedoaaGreat.Fx
/- Contracts of package crc: Bend, Seal. -/
namespace Go.Proofs.YtgdcphmmehedoaaGreat.Fx
open Go.ChangeShapes Go.WideShapes Go.ChangeAt Go.RowKit
set_option linter.unusedVariables false
theorem By.one (w : World) (x : Nat) : By (w.alloc (.cells #[Value.int .u8 (x : Nat)] 5)) (some ⟨w.heap.size, 0, none⟩) 1 (fun _ => x) := fun _ => ⟨w.heap.size, 0, rfl, fun i hi => by
 obtain rfl : i = 0 := by omega
 have := (has_new w 5 #[Value.int .u8 (x : Nat)]).at_ 0
 rw [Nat.add_zero, this]
 rfl⟩
end Go.Proofs.YtgdcphmmehedoaaGreat.Fx
/- Contracts of package crc: Open; bytes as strings; the anchor. -/
namespace Go.Proofs.YtgdcphmmehedoaaGreat.Fx
open Go.ChangeShapes Go.WideShapes Go.ChangeAt Go.RowKit
set_option linter.unusedVariables false
theorem conv_by {w : World} {n c : Nat} {ao : Option Addr} {f : Nat → Nat} (hB : By w ao n f) : (convert 40 9 (.slice ao n c)).run Tryz.prog w = .ok (.string (strB f n)) w := by
 rw [run_convert_bytes_string w _ _ 5 ao n c Tryz.underlying40 Tryz.underlying5 Tryz.underlying9]
 by_cases hn : n = 0
 ·subst hn
  cases ao with
  | none => simp [Conv.bytesToString, strB, Sem.run_pure]
  | some a => exact run_bytesToString w a 0 c [] (run_loadCells_list w a [] (by simp))
 ·obtain ⟨b, off, rfl, hc⟩ := hB (by omega)
  have h := run_loadCells_list (P := Tryz.prog) w ⟨b, off, none⟩ (((List.range n).map fun i => ((f i : Nat) : Int)).map (Value.int .u8)) fun j v hv => by
   rw [List.map_map] at hv
   have hj : j < n := by
    rcases Nat.lt_or_ge j n with h | h
    ·exact h
    ·rw [List.getElem?_eq_none (by simpa using h)] at hv; cases hv
   rw [List.getElem?_map, List.getElem?_range hj] at hv
   simp at hv
   subst hv
   rw [Addr.add_lit]
   exact hc j hj
  simp only [List.length_map, List.length_range] at h
  exact run_bytesToString w _ n c _ h
theorem str_iff (a b : ByteArray) : (a.toList == b.toList) = true ↔ a = b := by
 rw [ByteArray.toList_eq, ByteArray.toList_eq, beq_iff_eq]
 constructor
 ·intro h
  cases a with | mk a => cases b with | mk b =>
  exact congrArg ByteArray.mk (Array.ext' h)
 ·rintro rfl; rfl
theorem str_no {a b : ByteArray} (h : a ≠ b) : (a.toList == b.toList) = false := by
 cases e : (a.toList == b.toList) with
 | false => rfl
 | true => exact absurd ((str_iff a b).1 e) h
theorem str_yes {a b : ByteArray} (h : a = b) : (a.toList == b.toList) = true := (str_iff a b).2 h
theorem By.take {w : World} {ao : Option Addr} {n m : Nat} {f : Nat → Nat} (h : By w ao n f) (hm : m ≤ n) : By w ao m f := fun hp => by
 obtain ⟨b, off, e, hc⟩ := h (by omega)
 exact ⟨b, off, e, fun i hi => hc i (by omega)⟩
theorem By.drop {w : World} {b off n : Nat} {f : Nat → Nat} (h : By w (some ⟨b, off, none⟩) n f) (m : Nat) : By w (some ⟨b, off + m, none⟩) (n - m) (fun i => f (m + i)) := fun hp => by
 obtain ⟨b', off', e, hc⟩ := h (by omega)
 cases e
 exact ⟨b, off + m, rfl, fun i hi => by rw [Nat.add_assoc]; exact hc (m + i) (by omega)⟩
def abF (i : Nat) : Nat := if i = 0 then 97 else 98
def nineF (i : Nat) : Nat := 49 + i % 9
theorem By.new (w : World) (f : Nat → Nat) (n : Nat) (cs : Array Value) (fz : Nat × Nat) (h : ∀ i, i < n → cs[i]? = some (.int .u8 (f i : Nat))) : By (w.alloc (.cells cs 5 fz)) (some ⟨w.heap.size, 0, none⟩) n f := fun _ => ⟨w.heap.size, 0, rfl, fun i hi => by
 have hg : (w.alloc (.cells cs 5 fz)).heap[w.heap.size]? = some (.cells cs 5 fz) := by
  show (w.heap.push _)[w.heap.size]? = _
  simp
 rw [Nat.zero_add, cell_of_row _ _ i cs _ fz hg]
 exact h i hi⟩
theorem By.bel {w u : World} {ao : Option Addr} {n : Nat} {f : Nat → Nat} (h : By w ao n f) (k : Below w.heap.size w u) : By u ao n f := fun hn => by
 obtain ⟨b, off, e, hc⟩ := h hn
 exact ⟨b, off, e, fun i hi => (k.cell (World.block_lt_of_cell? (a := ⟨b, off + i, none⟩) w (hc i hi))).trans (hc i hi)⟩
theorem Tab.bel {w u : World} (h : Tab w) (k : Below w.heap.size w u) : Tab u := fun i hi => (k.cell (World.block_lt_of_cell? (a := ⟨0, i, none⟩) w (h i hi))).trans (h i hi)
end Go.Proofs.YtgdcphmmehedoaaGreat.Fx
/- Package pack: a writer and a reader in memory; the writer's calls. -/
namespace Go.Proofs.YtgdcphmmehedoaaGreat.Fx
open Go.ChangeShapes Go.WideShapes Go.ChangeAt Go.RowKit
set_option linter.unusedVariables false
def byteZ (x : Int) (k : Nat) : Nat := (x / 256 ^ k % 256).toNat
theorem byteZ_lt (x : Int) (k : Nat) : byteZ x k < 256 := by
 unfold byteZ
 have := Int.emod_lt_of_pos (x / 256 ^ k) (show (0 : Int) < 256 by omega)
 have := Int.emod_nonneg (x / 256 ^ k) (show (256 : Int) ≠ 0 by omega)
 omega
theorem byteZ_is (x : Int) (k : Nat) {q : Int} (h : x / 256 ^ k = q) : q % 256 = (byteZ x k : Int) := by
 unfold byteZ
 rw [h]
 have := Int.emod_nonneg q (show (256 : Int) ≠ 0 by omega)
 omega
theorem div256 (x : Int) (k : Nat) {q : Int} (h : x / 256 ^ k = q) : q / 256 = x / 256 ^ (k + 1) := by
 rw [← h, Int.pow_succ, Int.ediv_ediv_of_nonneg (Int.le_of_lt (Int.pow_pos (by omega)))]
theorem div256_rg (x : Int) (k : Nat) (h1 : -9223372036854775808 ≤ x) (h2 : x ≤ 9223372036854775807) : -9223372036854775808 ≤ x / 256 ^ k ∧ x / 256 ^ k ≤ 9223372036854775807 := by
 have hp : (1 : Int) ≤ 256 ^ k := by
  have := Int.pow_pos (n := 256) (m := k) (by omega)
  omega
 constructor
 ·rw [Int.le_ediv_iff_mul_le (by omega)]
  have : (-9223372036854775808 : Int) * 256 ^ k ≤ -9223372036854775808 * 1 := Int.mul_le_mul_of_nonpos_left (by omega) hp
  omega
 ·have : x / 256 ^ k < 9223372036854775808 := by
   rw [Int.ediv_lt_iff_lt_mul (by omega)]
   have : (9223372036854775808 : Int) * 1 ≤ 9223372036854775808 * 256 ^ k := Int.mul_le_mul_of_nonneg_left hp (by omega)
   omega
  omega
def Wr (w : World) (pb n : Nat) (f : Nat → Nat) : Prop := ∃ v, w.cell? ⟨pb, 0, none⟩ = some v ∧ w.frozen? ⟨pb, 0, none⟩ = false ∧ OB w (pb + 1) v n f
theorem Wr.congr {w : World} {pb n : Nat} {f g : Nat → Nat} (h : Wr w pb n f) (e : ∀ i, i < n → f i = g i) : Wr w pb n g := by
 obtain ⟨v, h1, h2, h3⟩ := h
 exact ⟨v, h1, h2, h3.congr e⟩
theorem Wr.here {w : World} {pb n : Nat} {f : Nat → Nat} (h : Wr w pb n f) : pb < w.heap.size := by
 obtain ⟨v, h1, _⟩ := h
 exact World.block_lt_of_cell? (a := ⟨pb, 0, none⟩) w h1
theorem Wr.kept {w u : World} {pb n : Nat} {f : Nat → Nat} (h : Wr w pb n f) (k : Made w.heap.size w u) : Wr u pb n f := by
 obtain ⟨v, h1, h2, h3⟩ := h
 exact ⟨v, k.reads h1, (k.2 _).trans h2, h3.kept k⟩
theorem Wr.new (w : World) (f : Nat → Nat) (t : TypeId) : Wr (w.alloc (.cells #[Value.slice none 0 0] t)) w.heap.size 0 f := by
 have hh := has_new w t #[Value.slice none 0 0]
 exact ⟨.slice none 0 0, by rw [hh.at_ 0]; rfl, hh.free 0, OB.nil _ _ _⟩
end Go.Proofs.YtgdcphmmehedoaaGreat.Fx
/- Package pack: the writer's other calls; a reader in memory. -/
namespace Go.Proofs.YtgdcphmmehedoaaGreat.Fx
open Go.ChangeShapes Go.WideShapes Go.ChangeAt Go.RowKit
set_option linter.unusedVariables false
theorem pcopied_c {n c : Nat} {ao : Option Addr} {f : Nat → Nat} {w : World} (hB : By w ao n f) (hn : n ≤ 1099511627776) :
  Calls Tryz.prog 59 #[.slice ao n c] w fun e w' => ∃ ao' c', e = .returned (.slice ao' n c') ∧ n ≤ c' ∧ OB w' w.heap.size (.slice ao' n c') n f ∧ Made w.heap.size w w' := by
 obtain ⟨v', w', hr, hO, hM⟩ := append_copy (c := c) 40 hB hn
 obtain ⟨ao', c', rfl, hc, _⟩ := hO.shape
 have HR := hid hr; have HO := hid hO; have HM := hid hM
 clear hr hO hM hB
 go_enter Tryz.func59, Tryz.ntmps59
 go_wp2_with (at_builtin; refine Lib.wpList_append_run _ rfl _ _ _ _ rfl _ _ rfl rfl _ _ HR.out ?_)
 go_ret
 exact ⟨_, _, rfl, hc, HO.out, HM.out⟩
theorem pbytes_c {pb n : Nat} {f : Nat → Nat} {w : World} (hW : Wr w pb n f) (hn : n ≤ 1099511627776) :
  Calls Tryz.prog 21 #[.pointer (some ⟨pb, 0, none⟩)] w fun e w' => ∃ ao' c', e = .returned (.slice ao' n c') ∧ n ≤ c' ∧ OB w' w.heap.size (.slice ao' n c') n f ∧ Made w.heap.size w w' := by
 obtain ⟨v, c0, z0, hO⟩ := hW
 obtain ⟨ao, c, rfl, _⟩ := hO.shape
 have HB := hid hO.by_
 clear hO
 go_enter Tryz.func21, Tryz.ntmps21
 go_wp2_with fail
 refine (pcopied_c HB.out hn).mono ?_
 rintro e w' ⟨ao', c', rfl, hc, hO, hM⟩
 have HO := hid hO; have HM := hid hM
 clear hO hM
 go_wp2_with fail
 go_ret
 exact ⟨_, _, rfl, hc, HO.out, HM.out⟩
structure On1 (X : Nat) (w v : World) : Prop where
 os : v.os = w.os
 tape : v.tape = w.tape
 output : v.output = w.output
 size : w.heap.size ≤ v.heap.size
 block : ∀ b, b < w.heap.size → b ≠ X → v.heap[b]? = w.heap[b]?
 marks : ∀ a, v.frozen? a = w.frozen? a
theorem On1.rfl_ (X : Nat) (w : World) : On1 X w w := ⟨rfl, rfl, rfl, Nat.le_refl _, fun _ _ _ => rfl, fun _ => rfl⟩
theorem On1.then_ {X : Nat} {a b c : World} (h : On1 X a b) (k : On1 X b c) : On1 X a c :=
 ⟨k.os.trans h.os, k.tape.trans h.tape, k.output.trans h.output, Nat.le_trans h.size k.size, fun i hi hx => (k.block i (Nat.lt_of_lt_of_le hi h.size) hx).trans (h.block i hi hx), fun x => (k.marks x).trans (h.marks x)⟩
theorem Made.on1 {X : Nat} {w v : World} (h : Made w.heap.size w v) : On1 X w v :=
 ⟨h.1.os, h.1.tape, h.1.output, h.1.size, fun b hb _ => h.1.block b hb, h.2⟩
theorem On1.made_ {X B : Nat} {a w v : World} (h : Made B a w) (k : On1 X w v) (hB : B ≤ w.heap.size) (hX : B ≤ X) : Made B a v := by
 refine ⟨⟨k.os.trans h.1.os, k.tape.trans h.1.tape, k.output.trans h.1.output, Nat.le_trans h.1.size k.size, fun b hb => ?_⟩, fun x => (k.marks x).trans (h.2 x)⟩
 exact (k.block b (Nat.lt_of_lt_of_le hb hB) (by omega)).trans (h.1.block b hb)
theorem On1.put {X : Nat} {a w : World} (h : On1 X a w) (i : Nat) (u : Value) : On1 X a (w.setCell ⟨X, i, none⟩ u) := by
 have e : (w.setCell ⟨X, i, none⟩ u).heap.size = w.heap.size := by simp [World.setCell]
 exact ⟨h.os, h.tape, h.output, Nat.le_trans h.size (Nat.le_of_eq e.symm), fun b hb hx => (Below.heap_setCell w ⟨X, i, none⟩ u b hx).trans (h.block b hb hx), fun x => (World.frozen?_setCell _ _ _ _).trans (h.marks x)⟩
theorem On1.cell {X : Nat} {w v : World} (h : On1 X w v) {p : Addr} {x : Value} (k : w.cell? p = some x) (hx : p.block ≠ X) : v.cell? p = some x :=
 (World.cell?_of_block (h.block p.block (World.block_lt_of_cell? w _ k) hx)).trans k
theorem By.on1 {X : Nat} {w u : World} {ao : Option Addr} {n : Nat} {f : Nat → Nat} (h : By w ao n f) (k : On1 X w u) (hx : ∀ b off, ao = some ⟨b, off, none⟩ → b ≠ X) : By u ao n f := fun hn => by
 obtain ⟨b, off, e, hc⟩ := h hn
 exact ⟨b, off, e, fun i hi => k.cell (hc i hi) (hx b off e)⟩
structure Re (w : World) (pb : Nat) (ao : Option Addr) (n c : Nat) (f : Nat → Nat) : Prop where
 c0 : w.cell? ⟨pb, 0, none⟩ = some (.slice ao n c)
 c1 : w.cell? ⟨pb, 1, none⟩ = some (.bool false)
 z0 : w.frozen? ⟨pb, 0, none⟩ = false
 z1 : w.frozen? ⟨pb, 1, none⟩ = false
 by_ : By w ao n f
 le : n ≤ c
 top : c ≤ maxLen
 off : ∀ b off, ao = some ⟨b, off, none⟩ → b ≠ pb
structure Rx (w : World) (pb : Nat) : Prop where
 c0 : w.cell? ⟨pb, 0, none⟩ = some (.slice none 0 0)
 c1 : w.cell? ⟨pb, 1, none⟩ = some (.bool true)
 z0 : w.frozen? ⟨pb, 0, none⟩ = false
 z1 : w.frozen? ⟨pb, 1, none⟩ = false
theorem Re.kept {w u : World} {pb n c : Nat} {ao : Option Addr} {f : Nat → Nat} (h : Re w pb ao n c f) (k : Made w.heap.size w u) : Re u pb ao n c f :=
 ⟨k.reads h.c0, k.reads h.c1, (k.2 _).trans h.z0, (k.2 _).trans h.z1, h.by_.kept k, h.le, h.top, h.off⟩
theorem Rx.kept {w u : World} {pb : Nat} (h : Rx w pb) (k : Made w.heap.size w u) : Rx u pb :=
 ⟨k.reads h.c0, k.reads h.c1, (k.2 _).trans h.z0, (k.2 _).trans h.z1⟩
theorem Re.here {w : World} {pb n c : Nat} {ao : Option Addr} {f : Nat → Nat} (h : Re w pb ao n c f) : pb < w.heap.size := World.block_lt_of_cell? (a := ⟨pb, 0, none⟩) w h.c0
theorem Rx.here {w : World} {pb : Nat} (h : Rx w pb) : pb < w.heap.size := World.block_lt_of_cell? (a := ⟨pb, 0, none⟩) w h.c0
theorem pnew_c {n c : Nat} {ao : Option Addr} {f : Nat → Nat} {w : World} (hB : By w ao n f) (hn : n ≤ 1099511627776) :
  Calls Tryz.prog 27 #[.slice ao n c] w fun e w' => ∃ pb ao' c', e = .returned (.pointer (some ⟨pb, 0, none⟩)) ∧ w.heap.size ≤ pb ∧ Re w' pb ao' n c' f ∧ Made w.heap.size w w' := by
 have HB := hid hB
 clear hB
 go_enter Tryz.func27, Tryz.ntmps27
 go_wp2_with fail
 refine (pcopied_c HB.out hn).mono ?_
 rintro e w' ⟨ao', c', rfl, hc, hO, hM⟩
 have HO := hid hO; have HM := hid hM
 clear hO hM
 go_wp2_with fail
 go_ret
 obtain ⟨_, _, e0, _, ht, _⟩ := HO.out.shape
 cases e0
 have hh := has_new w' 138 #[Value.slice ao' n c', Value.bool false]
 refine ⟨w'.heap.size, ao', c', rfl, HM.out.1.size, ⟨(hh.at_ 0).trans rfl, (hh.at_ 1).trans rfl, hh.free 0, hh.free 1, (HO.out.by_).kept ((Made.rfl_ _ _).cells (Nat.le_refl _) _ _), hc, ht, fun b off e => ?_⟩, HM.out.cells HM.out.1.size _ _⟩
 have := (HO.out.lt b (by rw [e]; rfl)).2
 omega
theorem rbad_c {pb n c : Nat} {ao : Option Addr} {f : Nat → Nat} {w : World} (h : Re w pb ao n c f) :
  Calls Tryz.prog 71 #[.pointer (some ⟨pb, 0, none⟩)] w fun e w' => e = .returned (.bool false) ∧ w = w' := by
 have c1 := h.c1
 clear h
 go_enter Tryz.func71, Tryz.ntmps71
 go_wp2_with fail
 go_ret
 exact ⟨rfl, rfl⟩
theorem rbadx_c {pb : Nat} {w : World} (h : Rx w pb) :
  Calls Tryz.prog 71 #[.pointer (some ⟨pb, 0, none⟩)] w fun e w' => e = .returned (.bool true) ∧ w = w' := by
 have c1 := h.c1
 clear h
 go_enter Tryz.func71, Tryz.ntmps71
 go_wp2_with fail
 go_ret
 exact ⟨rfl, rfl⟩
theorem rdone_c {pb n c : Nat} {ao : Option Addr} {f : Nat → Nat} {w : World} (h : Re w pb ao n c f) :
  Calls Tryz.prog 31 #[.pointer (some ⟨pb, 0, none⟩)] w fun e w' => e = .returned (.bool (decide (n = 0))) ∧ w = w' := by
 have c0 := h.c0
 have H := hid (rbad_c h)
 clear h
 by_cases hn : n = 0
 ·subst hn
  go_enter Tryz.func31, Tryz.ntmps31
  go_wp2_with fail
  refine H.out.mono ?_
  rintro e w1 ⟨rfl, rfl⟩
  go_wp2_with fail
  go_ret
  exact ⟨rfl, rfl⟩
 ·have e0 : ((n : Int) == 0) = false := by rw [beq_eq_false_iff_ne]; omega
  rw [decide_eq_false hn]
  go_enter Tryz.func31, Tryz.ntmps31
  go_wp2_with fail
  refine H.out.mono ?_
  rintro e w1 ⟨rfl, rfl⟩
  go_wp2_with fail
  go_ret
  exact ⟨rfl, rfl⟩
theorem rdonex_c {pb : Nat} {w : World} (h : Rx w pb) :
  Calls Tryz.prog 31 #[.pointer (some ⟨pb, 0, none⟩)] w fun e w' => e = .returned (.bool false) ∧ w = w' := by
 have H := hid (rbadx_c h)
 clear h
 go_enter Tryz.func31, Tryz.ntmps31
 go_wp2_with fail
 refine H.out.mono ?_
 rintro e w1 ⟨rfl, rfl⟩
 go_wp2_with fail
 go_ret
 exact ⟨rfl, rfl⟩
theorem rfail_w {pb : Nat} {w : World} {u0 u1 : Value} (c0 : w.cell? ⟨pb, 0, none⟩ = some u0) (c1 : w.cell? ⟨pb, 1, none⟩ = some u1) (z0 : w.frozen? ⟨pb, 0, none⟩ = false) (z1 : w.frozen? ⟨pb, 1, none⟩ = false) :
  Calls Tryz.prog 72 #[.pointer (some ⟨pb, 0, none⟩)] w fun e w' => e = .returned (.tuple #[]) ∧ Rx w' pb ∧ On1 pb w w' := by
 have hl := World.block_lt_of_cell? (a := ⟨pb, 0, none⟩) w c0
 go_enter Tryz.func72, Tryz.ntmps72
 go_wp2_with fail
 refine cvoid_end rfl rfl ⟨rfl, ⟨?_, ?_, ?_, ?_⟩, ?_⟩
 ·go_simp
 ·go_simp
 ·go_simp
 ·go_simp
 ·exact ((On1.rfl_ pb w).put _ _).put _ _
theorem rfail_c {pb n c : Nat} {ao : Option Addr} {f : Nat → Nat} {w : World} (h : Re w pb ao n c f) :
  Calls Tryz.prog 72 #[.pointer (some ⟨pb, 0, none⟩)] w fun e w' => e = .returned (.tuple #[]) ∧ Rx w' pb ∧ On1 pb w w' := rfail_w h.c0 h.c1 h.z0 h.z1
theorem rfailx_c {pb : Nat} {w : World} (h : Rx w pb) :
  Calls Tryz.prog 72 #[.pointer (some ⟨pb, 0, none⟩)] w fun e w' => e = .returned (.tuple #[]) ∧ Rx w' pb ∧ On1 pb w w' := rfail_w h.c0 h.c1 h.z0 h.z1
def valI (f : Nat → Nat) : Nat → Int
 | 0 => 0
 | k + 1 => bits .or .i64 (valI f k) (wrap64 ((f k : Int) * 2 ^ (8 * k)))
theorem rnumx_c {pb m : Nat} {w : World} (h : Rx w pb) (hm : m ≤ 8) :
  Calls Tryz.prog 60 #[.pointer (some ⟨pb, 0, none⟩), .int .i64 (m : Nat)] w fun e w' => e = .returned (.int .i64 0) ∧ Rx w' pb ∧ On1 pb w w' := by
 have hmax : max (m : Int) 0 = (m : Int) := by omega
 have hmin : min (m : Int) 8 = (m : Int) := by omega
 have H := hid (rbadx_c h)
 have H2 := hid (rfailx_c h)
 clear h
 go_enter Tryz.func60, Tryz.ntmps60
 go_wp2_with fail
 refine H.out.mono ?_
 rintro e w1 ⟨rfl, rfl⟩
 go_wp2_with fail
 refine H2.out.mono ?_
 rintro e w1 ⟨rfl, hx, ho⟩
 have HX := hid hx; have HO := hid ho
 clear hx ho
 go_wp2_with fail
 go_ret
 exact ⟨rfl, HX.out, HO.out⟩
theorem rnums_c {pb m n c : Nat} {ao : Option Addr} {f : Nat → Nat} {w : World} (h : Re w pb ao n c f) (hm : m ≤ 8) (hs : n < m) :
  Calls Tryz.prog 60 #[.pointer (some ⟨pb, 0, none⟩), .int .i64 (m : Nat)] w fun e w' => e = .returned (.int .i64 0) ∧ Rx w' pb ∧ On1 pb w w' := by
 have hmax : max (m : Int) 0 = (m : Int) := by omega
 have hmin : min (m : Int) 8 = (m : Int) := by omega
 have c0 := h.c0
 have hlt : decide ((m : Int) > (n : Int)) = true := decide_eq_true (by omega)
 have H := hid (rbad_c h)
 have H2 := hid (rfail_c h)
 clear h
 go_enter Tryz.func60, Tryz.ntmps60
 go_wp2_with fail
 refine H.out.mono ?_
 rintro e w1 ⟨rfl, rfl⟩
 go_wp2_with fail
 refine H2.out.mono ?_
 rintro e w1 ⟨rfl, hx, ho⟩
 have HX := hid hx; have HO := hid ho
 clear hx ho
 go_wp2_with fail
 go_ret
 exact ⟨rfl, HX.out, HO.out⟩
end Go.Proofs.YtgdcphmmehedoaaGreat.Fx
/- Package pack: a reader reads a number, a count. -/
namespace Go.Proofs.YtgdcphmmehedoaaGreat.Fx
open Go.ChangeShapes Go.WideShapes Go.ChangeAt Go.RowKit
set_option linter.unusedVariables false
theorem Re.less {w : World} {pb n c m b off off' c' : Nat} {f : Nat → Nat} (h : Re w pb (some ⟨b, off, none⟩) n c f) (hm : m ≤ n) (hc : n - m ≤ c') (ht : c' ≤ maxLen) (ho : off' = off + m ∨ n ≤ m) :
  Re (w.setCell ⟨pb, 0, none⟩ (.slice (some ⟨b, off', none⟩) (n - m) c')) pb (some ⟨b, off', none⟩) (n - m) c' (fun i => f (m + i)) := by
 have hl := h.here
 have c0 := h.c0
 have c1 := h.c1
 have z0 := h.z0
 have z1 := h.z1
 have hb : b ≠ pb := h.off b off rfl
 refine ⟨?_, ?_, ?_, ?_, ?_, hc, ht, fun b' off' e => by cases e; exact hb⟩
 ·go_simp
 ·go_simp
 ·go_simp
 ·go_simp
 ·rcases ho with rfl | ho
  ·exact (h.by_.drop m).on1 ((On1.rfl_ pb w).put 0 _) fun b' off' e => by cases e; exact hb
  ·intro hp
   omega
end Go.Proofs.YtgdcphmmehedoaaGreat.Fx