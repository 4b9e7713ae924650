/- CrP CrQ CrA CrB CrC CrD CrE PaA PaB PaC Plain -/
import Derived.Test.YtgdcphmmehedoaaGreatCb0
import Derived.Laws.BitsAllLaws
import Derived.Laws.BytesString
import Derived.Lib.LaidTab
import Derived.Deep.DeepCutAuto
import Derived.Lib.AppendZeros
import Derived.OwnWalk
import Derived.Lib.SmallJoins
import Derived.Laws.Strings
set_option maxRecDepth 100000
set_option maxHeartbeats 64000000
/- Checksums, plainly: the register, its steps, streams of bits. No Go. -/
namespace Go.Proofs.YtgdcphmmehedoaaGreat.Fx
set_option linter.unusedVariables false
def poly : Nat := 3988292384
def ones : Nat := 4294967295
def step (r : Nat) : Nat := (r / 2) ^^^ (if r % 2 = 1 then poly else 0)
def steps : Nat → Nat → Nat
 | 0, r => r
 | n + 1, r => step (steps n r)
def tabC : List Nat := [0, 498536548, 997073096, 651767980, 1994146192, 1802195444, 1303535960, 1342533948, 3988292384, 4027552580, 3604390888, 3412177804, 2607071920, 2262029012, 2685067896, 3183342108]
def byteIn (r c : Nat) : Nat := steps 8 (r ^^^ c)
def reg (f : Nat → Nat) (r : Nat) : Nat → Nat
 | 0 => r
 | n + 1 => byteIn (reg f r n) (f n)
def breg (b : Nat → Bool) (r : Nat) : Nat → Nat
 | 0 => r
 | n + 1 => step (breg b r n ^^^ (b n).toNat)
def bitOf (f : Nat → Nat) (i : Nat) : Bool := (f (i / 8)).testBit (i % 8)
def sumB (f : Nat → Nat) (n : Nat) : Nat := reg f ones n ^^^ ones
def word (f : Nat → Nat) : Nat → Nat
 | 0 => 0
 | n + 1 => word f n ||| (f n <<< (8 * n))
def sealB (f : Nat → Nat) (n i : Nat) : Nat := if i < n then f i else if i < n + 4 then sumB f n / 2 ^ (8 * (i - n)) % 256 else 0
end Go.Proofs.YtgdcphmmehedoaaGreat.Fx
/- Checksums, plainly: the division of polynomials, bits inverted, bits counted, bytes as strings. No Go. -/
namespace Go.Proofs.YtgdcphmmehedoaaGreat.Fx
set_option linter.unusedVariables false
def pw : List Nat := [32, 26, 23, 22, 16, 12, 11, 10, 8, 7, 5, 4, 2, 1, 0]
def flips (B : Nat → Bool) (i : Nat) : Nat → Nat → Bool
 | 0, k => B k
 | m + 1, k => if k = i + 32 - pw.getD m 0 then !(flips B i m k) else flips B i m k
def fl : Nat → Nat → Bool
 | 0, j => false
 | m + 1, j => if j = 32 - pw.getD m 0 then !(fl m j) else fl m j
def divB (B : Nat → Bool) : Nat → Nat → Bool
 | 0 => B
 | i + 1 => if divB B i i = true then flips (divB B i) i 15 else divB B i
def dataB (f : Nat → Nat) (n k : Nat) : Bool := decide (k < 8 * n) && bitOf f k
def startB (f : Nat → Nat) (n k : Nat) : Bool := dataB f n k ^^ decide (k < 32)
def outB (B : Nat → Bool) : Nat → Nat
 | 0 => 0
 | m + 1 => outB B m ||| ((!B m).toNat <<< m)
def addB (s : Nat) (f : Nat → Nat) (n : Nat) : Nat := reg f (s ^^^ ones) n ^^^ ones
def joinB (f g : Nat → Nat) (n i : Nat) : Nat := if i < n then f i else g (i - n)
def bendE (at_ : Int) (mask m k : Nat) : Bool := decide (at_ ≤ k ∧ (k : Int) < at_ + m) && mask.testBit ((k : Int) - at_).toNat
def bendB (f : Nat → Nat) (at_ : Int) (mask : Nat) : Nat → Nat → Nat
 | 0, j => f j
 | i + 1, j => if mask.testBit i = true ∧ (8 * j : Int) ≤ at_ + i ∧ at_ + i < 8 * j + 8 then bendB f at_ mask i j ^^^ 2 ^ (at_ + i - 8 * j).toNat else bendB f at_ mask i j
def apartB (f : Nat → Nat) (k : Nat) (x : Nat → Nat) (m i : Nat) : Nat := if k ≤ i ∧ i < k + m then f i ^^^ x (i - k) else f i
def cnt (d : Nat → Bool) : Nat → Nat
 | 0 => 0
 | n + 1 => cnt d n + (d n).toNat
def part8 (f g : Nat → Nat) : Nat → Nat
 | 0 => 0
 | n + 1 => part8 f g n + cnt (fun t => (f n ^^^ g n).testBit t) 8
def strB (f : Nat → Nat) (n : Nat) : ByteArray := ((List.range n).map fun i => ((f i : Nat) : Int)).foldl (fun r k => r.push (UInt8.ofNat k.toNat)) ByteArray.empty
end Go.Proofs.YtgdcphmmehedoaaGreat.Fx
/- Contracts of package crc: checksums. -/
namespace Go.Proofs.YtgdcphmmehedoaaGreat.Fx
open Go.ChangeShapes Go.WideShapes Go.ChangeAt Go.RowKit
set_option linter.unusedVariables false
theorem cret_i {k : IntKind} {a b : Int} (h : a = b) : Ending.returned (.int k a) = .returned (.int k b) := by rw [h]
def By (w : World) (ao : Option Addr) (n : Nat) (f : Nat → Nat) : Prop := 0 < n → ∃ b off, ao = some ⟨b, off, none⟩ ∧ ∀ i, i < n → w.cell? ⟨b, off + i, none⟩ = some (.int .u8 (f i : Nat))
def Tab (w : World) : Prop := ∀ i, i < 16 → w.cell? ⟨0, i, none⟩ = some (.int .u32 (tabC.getD i 0 : Nat))
end Go.Proofs.YtgdcphmmehedoaaGreat.Fx
/- Bytes that a call owns: a row, an append to it, a byte of it written. -/
namespace Go.Proofs.YtgdcphmmehedoaaGreat.Fx
open Go.ChangeShapes Go.WideShapes Go.ChangeAt Go.RowKit
set_option linter.unusedVariables false
def bl (f : Nat → Nat) (n : Nat) : List Value := (List.range n).map fun i => Value.int .u8 (f i : Nat)
theorem bl_len (f : Nat → Nat) (n : Nat) : (bl f n).length = n := by simp [bl]
theorem bl_at (f : Nat → Nat) {n j : Nat} (h : j < n) : (bl f n)[j]? = some (.int .u8 (f j : Nat)) := by simp [bl, h]
theorem bl_one (f : Nat → Nat) (n : Nat) : ∀ u ∈ bl f n, u.oneCell' = true := by
 intro u hu
 obtain ⟨j, _, rfl⟩ := List.mem_map.1 hu
 rfl
theorem bl_congr {f g : Nat → Nat} {n : Nat} (h : ∀ i, i < n → f i = g i) : bl f n = bl g n := by
 refine List.map_congr_left fun i hi => ?_
 rw [h i (List.mem_range.1 hi)]
theorem bl_join (f g : Nat → Nat) (n m : Nat) : bl f n ++ bl g m = bl (joinB f g n) (n + m) := by
 apply List.ext_getElem?
 intro j
 by_cases h1 : j < n
 ·rw [List.getElem?_append_left (by rw [bl_len]; exact h1), bl_at f h1, bl_at _ (show j < n + m by omega)]
  unfold joinB; rw [if_pos h1]
 ·rw [List.getElem?_append_right (by rw [bl_len]; omega), bl_len]
  by_cases h2 : j < n + m
  ·rw [bl_at g (show j - n < m by omega), bl_at _ h2]
   unfold joinB; rw [if_neg h1]
  ·rw [List.getElem?_eq_none (by rw [bl_len]; omega), List.getElem?_eq_none (by rw [bl_len]; omega)]
def OB (w : World) (base : Nat) (v : Value) (n : Nat) (f : Nat → Nat) : Prop := w.ownsRow base 5 1 v n (bl f n)
theorem OB.shape {w : World} {base n : Nat} {v : Value} {f : Nat → Nat} (h : OB w base v n f) : ∃ ao c, v = .slice ao n c ∧ n ≤ c ∧ c ≤ maxLen ∧ (0 < n → ∃ g, ao = some ⟨g, 0, none⟩ ∧ base ≤ g ∧ g < w.heap.size ∧ ∀ i, w.frozen? ⟨g, i, none⟩ = false) := by
 rcases h.2 with ⟨rfl, rfl⟩ | ⟨g, cap, cur, rfl, hb, hg, hc, hm, _⟩
 ·exact ⟨none, 0, rfl, by omega, by unfold maxLen; omega, fun h => absurd h (by omega)⟩
 ·have hh : Has w g 5 cur := hg
  exact ⟨_, _, rfl, hc, hm, fun _ => ⟨g, rfl, hb, hh.here, fun i => hh.free i⟩⟩
theorem OB.by_ {w : World} {base n c : Nat} {ao : Option Addr} {f : Nat → Nat} (h : OB w base (.slice ao n c) n f) : By w ao n f := by
 intro hn
 rcases h.2 with ⟨_, rfl⟩ | ⟨g, cap, cur, e, hb, hg, hc, hm, hs, ht⟩
 ·omega
 ·cases e
  refine ⟨g, 0, rfl, fun i hi => ?_⟩
  have hh : Has w g 5 cur := hg
  rw [Nat.zero_add, hh.at_ i]
  have := bl_at f hi
  rw [← ht, List.getElem?_take, if_pos (by omega)] at this
  simpa using this
theorem OB.nil (w : World) (base : Nat) (f : Nat → Nat) : OB w base (.slice none 0 0) 0 f := World.ownsRow_nil _ _ _ _
theorem OB.congr {w : World} {base n : Nat} {v : Value} {f g : Nat → Nat} (h : OB w base v n f) (e : ∀ i, i < n → f i = g i) : OB w base v n g := by
 unfold OB; rw [← bl_congr e]; exact h
theorem OB.kept {w u : World} {base n : Nat} {v : Value} {f : Nat → Nat} (h : OB w base v n f) (k : Made w.heap.size w u) : OB u base v n f := own_stays h k
theorem OB.low {w : World} {base base' n : Nat} {v : Value} {f : Nat → Nat} (h : OB w base v n f) (hb : base' ≤ base) : OB w base' v n f := by
 refine ⟨h.1, h.2.imp id ?_⟩
 rintro ⟨g, cap, cur, e, hg, r⟩
 exact ⟨g, cap, cur, e, Nat.le_trans hb hg, r⟩
theorem By.kept {w u : World} {ao : Option Addr} {n : Nat} {f : Nat → Nat} (h : By w ao n f) (k : Made w.heap.size w u) : By u ao n f := fun hn => by
 obtain ⟨b, off, e, hc⟩ := h hn
 exact ⟨b, off, e, fun i hi => k.reads (hc i hi)⟩
theorem By.stays {w u : World} {ao : Option Addr} {n : Nat} {f : Nat → Nat} (h : By w ao n f) {B : Nat} (k : Made B w u) (hb : ∀ b off, ao = some ⟨b, off, none⟩ → b < B) : By u ao n f := fun hn => by
 obtain ⟨b, off, e, hc⟩ := h hn
 exact ⟨b, off, e, fun i hi => (k.1.cell (hb b off e)).trans (hc i hi)⟩
theorem By.below {w : World} {ao : Option Addr} {n : Nat} {f : Nat → Nat} (h : By w ao n f) (hn : 0 < n) : ∃ b off, ao = some ⟨b, off, none⟩ ∧ b < w.heap.size := by
 obtain ⟨b, off, e, hc⟩ := h hn
 exact ⟨b, off, e, World.block_lt_of_cell? (a := ⟨b, off + 0, none⟩) w (hc 0 hn)⟩
theorem By.congr {w : World} {ao : Option Addr} {n : Nat} {f g : Nat → Nat} (h : By w ao n f) (e : ∀ i, i < n → f i = g i) : By w ao n g := fun hn => by
 obtain ⟨b, off, e1, hc⟩ := h hn
 exact ⟨b, off, e1, fun i hi => by rw [hc i hi, e i hi]⟩
theorem Tab.kept {w u : World} (h : Tab w) (k : Made w.heap.size w u) : Tab u := fun i hi => k.reads (h i hi)
theorem OB.set {w : World} {base n g c i : Nat} {f : Nat → Nat} (h : OB w base (.slice (some ⟨g, 0, none⟩) n c) n f) (hi : i < n) (x : Nat) :
  OB (w.setCell ⟨g, i, none⟩ (.int .u8 (x : Nat))) base (.slice (some ⟨g, 0, none⟩) n c) n (fun j => if j = i then x else f j) := by
 rcases h.2 with ⟨e, _⟩ | ⟨g', cap, cur, e, hb, hg, hc, hm, hs, ht⟩
 ·cases e
 ·cases e
  have hh : Has w g 5 cur := hg
  refine ⟨by rw [bl_len, Nat.mul_one], .inr ⟨g, c, _, rfl, hb, hh.put i _, hc, hm, by simpa using hs, ?_⟩⟩
  apply List.ext_getElem?
  intro j
  rw [List.getElem?_take]
  by_cases hj : j < n
  ·rw [if_pos (by omega), bl_at _ hj]
   have hold := bl_at f hj
   rw [← ht, List.getElem?_take, if_pos (by omega)] at hold
   by_cases e : i = j
   ·subst e
    have hl : i < cur.size := by rw [hs]; omega
    simp [hl]
   ·rw [if_neg (fun h => e h.symm), Array.toList_setIfInBounds, List.getElem?_set, if_neg e]
    exact hold
  ·rw [if_neg (by omega), List.getElem?_eq_none (by rw [bl_len]; omega)]
theorem info8 : (Tryz.prog.info? 5).map (fun i => (i.zero, i.size, i.bytes)) = some (some (.int .u8 0), 1, 1) := by kernel_rfl
section
variable {P : Program}
theorem append_none (w : World) (base : Nat) (t ty e : TypeId) (i : TypeInfo) (size : Nat) (ht : P.underlying t = some (.slice e)) (hi : P.info? e = some i) (v : Value) (n : Nat) (xs : List Value) (hown : w.ownsRow base e size v n xs) (ao : Option Addr) (c : Nat) :
  (Builtin.append_ #[t, t] ty #[v, .slice ao 0 c]).run P w = .ok v w := by
 have hf : (Builtin.firstCells i.size 0 (.slice ao 0 c)).run P w = .ok #[] w := by
  cases ao with
  | none => simp [Builtin.firstCells, Sem.run_pure]
  | some a => exact run_firstCells_some w i.size 0 a 0 c [] (by simp) (by simp)
 rcases hown.2 with ⟨rfl, rfl⟩ | ⟨g, cap, cur, rfl, _, _, hnc, _⟩
 ·simp [Builtin.append_, run_underlying ht, sizeOf, typeInfo, hi, Builtin.lenOf, hf]
 ·simp [Builtin.append_, run_underlying ht, sizeOf, typeInfo, hi, Builtin.lenOf, hf, hnc, storeCells]
end
theorem append_by {w : World} {base n m c : Nat} {v : Value} {ao : Option Addr} {f g : Nat → Nat} (ty : TypeId) (hown : OB w base v n f) (hx : By w ao m g) (h63 : n + m ≤ 1099511627776) (hbase : base ≤ w.heap.size) :
  ∃ v' w', (Builtin.append_ #[40, 40] ty #[v, .slice ao m c]).run Tryz.prog w = .ok v' w' ∧ OB w' base v' (n + m) (joinB f g n) ∧ w.grownBy w' v.ownBlock ∧ (∀ p, w'.frozen? p = w.frozen? p) := by
 obtain ⟨i, hi, hz0, hz1, hz2⟩ := info_parts info8
 by_cases hm : m = 0
 ·subst hm
  refine ⟨v, w, append_none w base _ _ _ i 1 Tryz.underlying40 hi v n _ hown ao c, ?_, ⟨rfl, rfl, rfl, Nat.le_refl _, fun _ _ _ => rfl⟩, fun _ => rfl⟩
  exact hown.congr fun j hj => by unfold joinB; rw [if_pos hj]
 ·obtain ⟨b, off, rfl, hc⟩ := hx (by omega)
  have hnews : ∀ j u, (bl g m)[j]? = some u → w.cell? ((⟨b, off, none⟩ : Addr).add j) = some u := by
   intro j u hu
   have hj : j < m := by
    rcases Nat.lt_or_ge j m with h | h
    ·exact h
    ·rw [List.getElem?_eq_none (by rw [bl_len]; exact h)] at hu; cases hu
   rw [bl_at g hj] at hu
   cases hu
   rw [Addr.add_lit]
   exact hc j hj
  obtain ⟨v', w', hr, h2, h3, _⟩ := run_append_own (P := Tryz.prog) w base 40 ty 5 i (.int .u8 0) 1 1 Tryz.underlying40 hi hz0 hz1 hz2 rfl (by omega) v n (bl f n) hown ⟨b, off, none⟩ m c (bl g m) (by rw [bl_len, Nat.mul_one]) hnews (bl_one g m) (by unfold maxLen; omega) (by omega) hbase
  have hf := append_frozen (P := Tryz.prog) w base 40 ty 5 i (.int .u8 0) 1 1 Tryz.underlying40 hi hz0 hz1 hz2 (by omega) v n (bl f n) hown ⟨b, off, none⟩ m c (bl g m) (by rw [bl_len, Nat.mul_one]) hnews (bl_one g m) (by unfold maxLen; omega) (by omega) (by omega) hr
  refine ⟨v', w', hr, ?_, h3, hf⟩
  unfold OB
  rw [← bl_join]
  exact h2
theorem append_copy {w : World} {m c : Nat} {ao : Option Addr} {g : Nat → Nat} (ty : TypeId) (hx : By w ao m g) (h63 : m ≤ 1099511627776) :
  ∃ v' w', (Builtin.append_ #[40, 40] ty #[.slice none 0 0, .slice ao m c]).run Tryz.prog w = .ok v' w' ∧ OB w' w.heap.size v' m g ∧ Made w.heap.size w w' := by
 obtain ⟨v', w', hr, h1, h2, h3⟩ := append_by (f := g) (c := c) ty (OB.nil w w.heap.size g) hx (by omega) (Nat.le_refl _)
 rw [Nat.zero_add] at h1
 refine ⟨v', w', hr, h1.congr fun i hi => ?_, (Made.rfl_ _ _).app h2 h3 (Nat.le_refl _) fun k hk => by cases hk⟩
 unfold joinB; rw [if_neg (by omega), Nat.sub_zero]
end Go.Proofs.YtgdcphmmehedoaaGreat.Fx
/- Contracts of package crc: Sum, stored, copied, invert, Bend. -/
namespace Go.Proofs.YtgdcphmmehedoaaGreat.Fx
open Go.ChangeShapes Go.WideShapes Go.ChangeAt Go.RowKit
set_option linter.unusedVariables false
def invF (f : Nat → Nat) (bit : Int) (j : Nat) : Nat := if (8 * j : Int) ≤ bit ∧ bit < 8 * j + 8 then f j ^^^ 2 ^ (bit - 8 * j).toNat else f j
theorem cvoid_end {P : Program} {fn : Func} {R : Ending → World → Prop} {a : Act} {w : World} (h : fn.results = #[]) (hd : a.defers = []) (hR : R (.returned (.tuple #[])) w) : bodyPost P fn R .normal a w := bodyPost_end (results_none h _ _ _) hd hR
end Go.Proofs.YtgdcphmmehedoaaGreat.Fx
/- Contracts of package crc: Bend, Seal. -/
namespace Go.Proofs.YtgdcphmmehedoaaGreat.Fx
open Go.ChangeShapes Go.WideShapes Go.ChangeAt Go.RowKit
set_option linter.unusedVariables false
theorem By.one (w : World) (x : Nat) : By (w.alloc (.cells #[Value.int .u8 (x : Nat)] 5)) (some ⟨w.heap.size, 0, none⟩) 1 (fun _ => x) := fun _ => ⟨w.heap.size, 0, rfl, fun i hi => by
 obtain rfl : i = 0 := by omega
 have := (has_new w 5 #[Value.int .u8 (x : Nat)]).at_ 0
 rw [Nat.add_zero, this]
 rfl⟩
end Go.Proofs.YtgdcphmmehedoaaGreat.Fx
/- Contracts of package crc: Open; bytes as strings; the anchor. -/
namespace Go.Proofs.YtgdcphmmehedoaaGreat.Fx
open Go.ChangeShapes Go.WideShapes Go.ChangeAt Go.RowKit
set_option linter.unusedVariables false
theorem conv_by {w : World} {n c : Nat} {ao : Option Addr} {f : Nat → Nat} (hB : By w ao n f) : (convert 40 9 (.slice ao n c)).run Tryz.prog w = .ok (.string (strB f n)) w := by
 rw [run_convert_bytes_string w _ _ 5 ao n c Tryz.underlying40 Tryz.underlying5 Tryz.underlying9]
 by_cases hn : n = 0
 ·subst hn
  cases ao with
  | none => simp [Conv.bytesToString, strB, Sem.run_pure]
  | some a => exact run_bytesToString w a 0 c [] (run_loadCells_list w a [] (by simp))
 ·obtain ⟨b, off, rfl, hc⟩ := hB (by omega)
  have h := run_loadCells_list (P := Tryz.prog) w ⟨b, off, none⟩ (((List.range n).map fun i => ((f i : Nat) : Int)).map (Value.int .u8)) fun j v hv => by
   rw [List.map_map] at hv
   have hj : j < n := by
    rcases Nat.lt_or_ge j n with h | h
    ·exact h
    ·rw [List.getElem?_eq_none (by simpa using h)] at hv; cases hv
   rw [List.getElem?_map, List.getElem?_range hj] at hv
   simp at hv
   subst hv
   rw [Addr.add_lit]
   exact hc j hj
  simp only [List.length_map, List.length_range] at h
  exact run_bytesToString w _ n c _ h
theorem By.take {w : World} {ao : Option Addr} {n m : Nat} {f : Nat → Nat} (h : By w ao n f) (hm : m ≤ n) : By w ao m f := fun hp => by
 obtain ⟨b, off, e, hc⟩ := h (by omega)
 exact ⟨b, off, e, fun i hi => hc i (by omega)⟩
theorem By.drop {w : World} {b off n : Nat} {f : Nat → Nat} (h : By w (some ⟨b, off, none⟩) n f) (m : Nat) : By w (some ⟨b, off + m, none⟩) (n - m) (fun i => f (m + i)) := fun hp => by
 obtain ⟨b', off', e, hc⟩ := h (by omega)
 cases e
 exact ⟨b, off + m, rfl, fun i hi => by rw [Nat.add_assoc]; exact hc (m + i) (by omega)⟩
def abF (i : Nat) : Nat := if i = 0 then 97 else 98
def nineF (i : Nat) : Nat := 49 + i % 9
theorem By.new (w : World) (f : Nat → Nat) (n : Nat) (cs : Array Value) (fz : Nat × Nat) (h : ∀ i, i < n → cs[i]? = some (.int .u8 (f i : Nat))) : By (w.alloc (.cells cs 5 fz)) (some ⟨w.heap.size, 0, none⟩) n f := fun _ => ⟨w.heap.size, 0, rfl, fun i hi => by
 have hg : (w.alloc (.cells cs 5 fz)).heap[w.heap.size]? = some (.cells cs 5 fz) := by
  show (w.heap.push _)[w.heap.size]? = _
  simp
 rw [Nat.zero_add, cell_of_row _ _ i cs _ fz hg]
 exact h i hi⟩
theorem By.bel {w u : World} {ao : Option Addr} {n : Nat} {f : Nat → Nat} (h : By w ao n f) (k : Below w.heap.size w u) : By u ao n f := fun hn => by
 obtain ⟨b, off, e, hc⟩ := h hn
 exact ⟨b, off, e, fun i hi => (k.cell (World.block_lt_of_cell? (a := ⟨b, off + i, none⟩) w (hc i hi))).trans (hc i hi)⟩
theorem Tab.bel {w u : World} (h : Tab w) (k : Below w.heap.size w u) : Tab u := fun i hi => (k.cell (World.block_lt_of_cell? (a := ⟨0, i, none⟩) w (h i hi))).trans (h i hi)
end Go.Proofs.YtgdcphmmehedoaaGreat.Fx
/- Package pack: a writer and a reader in memory; the writer's calls. -/
namespace Go.Proofs.YtgdcphmmehedoaaGreat.Fx
open Go.ChangeShapes Go.WideShapes Go.ChangeAt Go.RowKit
set_option linter.unusedVariables false
def byteZ (x : Int) (k : Nat) : Nat := (x / 256 ^ k % 256).toNat
theorem byteZ_lt (x : Int) (k : Nat) : byteZ x k < 256 := by
 unfold byteZ
 have := Int.emod_lt_of_pos (x / 256 ^ k) (show (0 : Int) < 256 by omega)
 have := Int.emod_nonneg (x / 256 ^ k) (show (256 : Int) ≠ 0 by omega)
 omega
theorem byteZ_is (x : Int) (k : Nat) {q : Int} (h : x / 256 ^ k = q) : q % 256 = (byteZ x k : Int) := by
 unfold byteZ
 rw [h]
 have := Int.emod_nonneg q (show (256 : Int) ≠ 0 by omega)
 omega
theorem div256 (x : Int) (k : Nat) {q : Int} (h : x / 256 ^ k = q) : q / 256 = x / 256 ^ (k + 1) := by
 rw [← h, Int.pow_succ, Int.ediv_ediv_of_nonneg (Int.le_of_lt (Int.pow_pos (by omega)))]
theorem div256_rg (x : Int) (k : Nat) (h1 : -9223372036854775808 ≤ x) (h2 : x ≤ 9223372036854775807) : -9223372036854775808 ≤ x / 256 ^ k ∧ x / 256 ^ k ≤ 9223372036854775807 := by
 have hp : (1 : Int) ≤ 256 ^ k := by
  have := Int.pow_pos (n := 256) (m := k) (by omega)
  omega
 constructor
 ·rw [Int.le_ediv_iff_mul_le (by omega)]
  have : (-9223372036854775808 : Int) * 256 ^ k ≤ -9223372036854775808 * 1 := Int.mul_le_mul_of_nonpos_left (by omega) hp
  omega
 ·have : x / 256 ^ k < 9223372036854775808 := by
   rw [Int.ediv_lt_iff_lt_mul (by omega)]
   have : (9223372036854775808 : Int) * 1 ≤ 9223372036854775808 * 256 ^ k := Int.mul_le_mul_of_nonneg_left hp (by omega)
   omega
  omega
def Wr (w : World) (pb n : Nat) (f : Nat → Nat) : Prop := ∃ v, w.cell? ⟨pb, 0, none⟩ = some v ∧ w.frozen? ⟨pb, 0, none⟩ = false ∧ OB w (pb + 1) v n f
theorem Wr.congr {w : World} {pb n : Nat} {f g : Nat → Nat} (h : Wr w pb n f) (e : ∀ i, i < n → f i = g i) : Wr w pb n g := by
 obtain ⟨v, h1, h2, h3⟩ := h
 exact ⟨v, h1, h2, h3.congr e⟩
theorem Wr.here {w : World} {pb n : Nat} {f : Nat → Nat} (h : Wr w pb n f) : pb < w.heap.size := by
 obtain ⟨v, h1, _⟩ := h
 exact World.block_lt_of_cell? (a := ⟨pb, 0, none⟩) w h1
theorem Wr.kept {w u : World} {pb n : Nat} {f : Nat → Nat} (h : Wr w pb n f) (k : Made w.heap.size w u) : Wr u pb n f := by
 obtain ⟨v, h1, h2, h3⟩ := h
 exact ⟨v, k.reads h1, (k.2 _).trans h2, h3.kept k⟩
theorem Wr.new (w : World) (f : Nat → Nat) (t : TypeId) : Wr (w.alloc (.cells #[Value.slice none 0 0] t)) w.heap.size 0 f := by
 have hh := has_new w t #[Value.slice none 0 0]
 exact ⟨.slice none 0 0, by rw [hh.at_ 0]; rfl, hh.free 0, OB.nil _ _ _⟩
end Go.Proofs.YtgdcphmmehedoaaGreat.Fx
/- Package pack: the writer's other calls; a reader in memory. -/
namespace Go.Proofs.YtgdcphmmehedoaaGreat.Fx
open Go.ChangeShapes Go.WideShapes Go.ChangeAt Go.RowKit
set_option linter.unusedVariables false
theorem pcopied_c {n c : Nat} {ao : Option Addr} {f : Nat → Nat} {w : World} (hB : By w ao n f) (hn : n ≤ 1099511627776) :
  Calls Tryz.prog 59 #[.slice ao n c] w fun e w' => ∃ ao' c', e = .returned (.slice ao' n c') ∧ n ≤ c' ∧ OB w' w.heap.size (.slice ao' n c') n f ∧ Made w.heap.size w w' := by
 obtain ⟨v', w', hr, hO, hM⟩ := append_copy (c := c) 40 hB hn
 obtain ⟨ao', c', rfl, hc, _⟩ := hO.shape
 have HR := hid hr; have HO := hid hO; have HM := hid hM
 clear hr hO hM hB
 go_enter Tryz.func59, Tryz.ntmps59
 go_wp2_with (at_builtin; refine Lib.wpList_append_run _ rfl _ _ _ _ rfl _ _ rfl rfl _ _ HR.out ?_)
 go_ret
 exact ⟨_, _, rfl, hc, HO.out, HM.out⟩
theorem pbytes_c {pb n : Nat} {f : Nat → Nat} {w : World} (hW : Wr w pb n f) (hn : n ≤ 1099511627776) :
  Calls Tryz.prog 21 #[.pointer (some ⟨pb, 0, none⟩)] w fun e w' => ∃ ao' c', e = .returned (.slice ao' n c') ∧ n ≤ c' ∧ OB w' w.heap.size (.slice ao' n c') n f ∧ Made w.heap.size w w' := by
 obtain ⟨v, c0, z0, hO⟩ := hW
 obtain ⟨ao, c, rfl, _⟩ := hO.shape
 have HB := hid hO.by_
 clear hO
 go_enter Tryz.func21, Tryz.ntmps21
 go_wp2_with fail
 refine (pcopied_c HB.out hn).mono ?_
 rintro e w' ⟨ao', c', rfl, hc, hO, hM⟩
 have HO := hid hO; have HM := hid hM
 clear hO hM
 go_wp2_with fail
 go_ret
 exact ⟨_, _, rfl, hc, HO.out, HM.out⟩
structure On1 (X : Nat) (w v : World) : Prop where
 os : v.os = w.os
 tape : v.tape = w.tape
 output : v.output = w.output
 size : w.heap.size ≤ v.heap.size
 block : ∀ b, b < w.heap.size → b ≠ X → v.heap[b]? = w.heap[b]?
 marks : ∀ a, v.frozen? a = w.frozen? a
theorem On1.rfl_ (X : Nat) (w : World) : On1 X w w := ⟨rfl, rfl, rfl, Nat.le_refl _, fun _ _ _ => rfl, fun _ => rfl⟩
theorem On1.then_ {X : Nat} {a b c : World} (h : On1 X a b) (k : On1 X b c) : On1 X a c :=
 ⟨k.os.trans h.os, k.tape.trans h.tape, k.output.trans h.output, Nat.le_trans h.size k.size, fun i hi hx => (k.block i (Nat.lt_of_lt_of_le hi h.size) hx).trans (h.block i hi hx), fun x => (k.marks x).trans (h.marks x)⟩
theorem Made.on1 {X : Nat} {w v : World} (h : Made w.heap.size w v) : On1 X w v :=
 ⟨h.1.os, h.1.tape, h.1.output, h.1.size, fun b hb _ => h.1.block b hb, h.2⟩
theorem On1.made_ {X B : Nat} {a w v : World} (h : Made B a w) (k : On1 X w v) (hB : B ≤ w.heap.size) (hX : B ≤ X) : Made B a v := by
 refine ⟨⟨k.os.trans h.1.os, k.tape.trans h.1.tape, k.output.trans h.1.output, Nat.le_trans h.1.size k.size, fun b hb => ?_⟩, fun x => (k.marks x).trans (h.2 x)⟩
 exact (k.block b (Nat.lt_of_lt_of_le hb hB) (by omega)).trans (h.1.block b hb)
theorem On1.put {X : Nat} {a w : World} (h : On1 X a w) (i : Nat) (u : Value) : On1 X a (w.setCell ⟨X, i, none⟩ u) := by
 have e : (w.setCell ⟨X, i, none⟩ u).heap.size = w.heap.size := by simp [World.setCell]
 exact ⟨h.os, h.tape, h.output, Nat.le_trans h.size (Nat.le_of_eq e.symm), fun b hb hx => (Below.heap_setCell w ⟨X, i, none⟩ u b hx).trans (h.block b hb hx), fun x => (World.frozen?_setCell _ _ _ _).trans (h.marks x)⟩
theorem On1.cell {X : Nat} {w v : World} (h : On1 X w v) {p : Addr} {x : Value} (k : w.cell? p = some x) (hx : p.block ≠ X) : v.cell? p = some x :=
 (World.cell?_of_block (h.block p.block (World.block_lt_of_cell? w _ k) hx)).trans k
theorem By.on1 {X : Nat} {w u : World} {ao : Option Addr} {n : Nat} {f : Nat → Nat} (h : By w ao n f) (k : On1 X w u) (hx : ∀ b off, ao = some ⟨b, off, none⟩ → b ≠ X) : By u ao n f := fun hn => by
 obtain ⟨b, off, e, hc⟩ := h hn
 exact ⟨b, off, e, fun i hi => k.cell (hc i hi) (hx b off e)⟩
structure Re (w : World) (pb : Nat) (ao : Option Addr) (n c : Nat) (f : Nat → Nat) : Prop where
 c0 : w.cell? ⟨pb, 0, none⟩ = some (.slice ao n c)
 c1 : w.cell? ⟨pb, 1, none⟩ = some (.bool false)
 z0 : w.frozen? ⟨pb, 0, none⟩ = false
 z1 : w.frozen? ⟨pb, 1, none⟩ = false
 by_ : By w ao n f
 le : n ≤ c
 top : c ≤ maxLen
 off : ∀ b off, ao = some ⟨b, off, none⟩ → b ≠ pb
structure Rx (w : World) (pb : Nat) : Prop where
 c0 : w.cell? ⟨pb, 0, none⟩ = some (.slice none 0 0)
 c1 : w.cell? ⟨pb, 1, none⟩ = some (.bool true)
 z0 : w.frozen? ⟨pb, 0, none⟩ = false
 z1 : w.frozen? ⟨pb, 1, none⟩ = false
theorem Re.kept {w u : World} {pb n c : Nat} {ao : Option Addr} {f : Nat → Nat} (h : Re w pb ao n c f) (k : Made w.heap.size w u) : Re u pb ao n c f :=
 ⟨k.reads h.c0, k.reads h.c1, (k.2 _).trans h.z0, (k.2 _).trans h.z1, h.by_.kept k, h.le, h.top, h.off⟩
theorem Rx.kept {w u : World} {pb : Nat} (h : Rx w pb) (k : Made w.heap.size w u) : Rx u pb :=
 ⟨k.reads h.c0, k.reads h.c1, (k.2 _).trans h.z0, (k.2 _).trans h.z1⟩
theorem Re.here {w : World} {pb n c : Nat} {ao : Option Addr} {f : Nat → Nat} (h : Re w pb ao n c f) : pb < w.heap.size := World.block_lt_of_cell? (a := ⟨pb, 0, none⟩) w h.c0
theorem Rx.here {w : World} {pb : Nat} (h : Rx w pb) : pb < w.heap.size := World.block_lt_of_cell? (a := ⟨pb, 0, none⟩) w h.c0
theorem pnew_c {n c : Nat} {ao : Option Addr} {f : Nat → Nat} {w : World} (hB : By w ao n f) (hn : n ≤ 1099511627776) :
  Calls Tryz.prog 27 #[.slice ao n c] w fun e w' => ∃ pb ao' c', e = .returned (.pointer (some ⟨pb, 0, none⟩)) ∧ w.heap.size ≤ pb ∧ Re w' pb ao' n c' f ∧ Made w.heap.size w w' := by
 have HB := hid hB
 clear hB
 go_enter Tryz.func27, Tryz.ntmps27
 go_wp2_with fail
 refine (pcopied_c HB.out hn).mono ?_
 rintro e w' ⟨ao', c', rfl, hc, hO, hM⟩
 have HO := hid hO; have HM := hid hM
 clear hO hM
 go_wp2_with fail
 go_ret
 obtain ⟨_, _, e0, _, ht, _⟩ := HO.out.shape
 cases e0
 have hh := has_new w' 138 #[Value.slice ao' n c', Value.bool false]
 refine ⟨w'.heap.size, ao', c', rfl, HM.out.1.size, ⟨(hh.at_ 0).trans rfl, (hh.at_ 1).trans rfl, hh.free 0, hh.free 1, (HO.out.by_).kept ((Made.rfl_ _ _).cells (Nat.le_refl _) _ _), hc, ht, fun b off e => ?_⟩, HM.out.cells HM.out.1.size _ _⟩
 have := (HO.out.lt b (by rw [e]; rfl)).2
 omega
theorem rbad_c {pb n c : Nat} {ao : Option Addr} {f : Nat → Nat} {w : World} (h : Re w pb ao n c f) :
  Calls Tryz.prog 71 #[.pointer (some ⟨pb, 0, none⟩)] w fun e w' => e = .returned (.bool false) ∧ w = w' := by
 have c1 := h.c1
 clear h
 go_enter Tryz.func71, Tryz.ntmps71
 go_wp2_with fail
 go_ret
 exact ⟨rfl, rfl⟩
theorem rbadx_c {pb : Nat} {w : World} (h : Rx w pb) :
  Calls Tryz.prog 71 #[.pointer (some ⟨pb, 0, none⟩)] w fun e w' => e = .returned (.bool true) ∧ w = w' := by
 have c1 := h.c1
 clear h
 go_enter Tryz.func71, Tryz.ntmps71
 go_wp2_with fail
 go_ret
 exact ⟨rfl, rfl⟩
theorem rdone_c {pb n c : Nat} {ao : Option Addr} {f : Nat → Nat} {w : World} (h : Re w pb ao n c f) :
  Calls Tryz.prog 31 #[.pointer (some ⟨pb, 0, none⟩)] w fun e w' => e = .returned (.bool (decide (n = 0))) ∧ w = w' := by
 have c0 := h.c0
 have H := hid (rbad_c h)
 clear h
 by_cases hn : n = 0
 ·subst hn
  go_enter Tryz.func31, Tryz.ntmps31
  go_wp2_with fail
  refine H.out.mono ?_
  rintro e w1 ⟨rfl, rfl⟩
  go_wp2_with fail
  go_ret
  exact ⟨rfl, rfl⟩
 ·have e0 : ((n : Int) == 0) = false := by rw [beq_eq_false_iff_ne]; omega
  rw [decide_eq_false hn]
  go_enter Tryz.func31, Tryz.ntmps31
  go_wp2_with fail
  refine H.out.mono ?_
  rintro e w1 ⟨rfl, rfl⟩
  go_wp2_with fail
  go_ret
  exact ⟨rfl, rfl⟩
theorem rdonex_c {pb : Nat} {w : World} (h : Rx w pb) :
  Calls Tryz.prog 31 #[.pointer (some ⟨pb, 0, none⟩)] w fun e w' => e = .returned (.bool false) ∧ w = w' := by
 have H := hid (rbadx_c h)
 clear h
 go_enter Tryz.func31, Tryz.ntmps31
 go_wp2_with fail
 refine H.out.mono ?_
 rintro e w1 ⟨rfl, rfl⟩
 go_wp2_with fail
 go_ret
 exact ⟨rfl, rfl⟩
theorem rfail_w {pb : Nat} {w : World} {u0 u1 : Value} (c0 : w.cell? ⟨pb, 0, none⟩ = some u0) (c1 : w.cell? ⟨pb, 1, none⟩ = some u1) (z0 : w.frozen? ⟨pb, 0, none⟩ = false) (z1 : w.frozen? ⟨pb, 1, none⟩ = false) :
  Calls Tryz.prog 72 #[.pointer (some ⟨pb, 0, none⟩)] w fun e w' => e = .returned (.tuple #[]) ∧ Rx w' pb ∧ On1 pb w w' := by
 have hl := World.block_lt_of_cell? (a := ⟨pb, 0, none⟩) w c0
 go_enter Tryz.func72, Tryz.ntmps72
 go_wp2_with fail
 refine cvoid_end rfl rfl ⟨rfl, ⟨?_, ?_, ?_, ?_⟩, ?_⟩
 ·go_simp
 ·go_simp
 ·go_simp
 ·go_simp
 ·exact ((On1.rfl_ pb w).put _ _).put _ _
theorem rfail_c {pb n c : Nat} {ao : Option Addr} {f : Nat → Nat} {w : World} (h : Re w pb ao n c f) :
  Calls Tryz.prog 72 #[.pointer (some ⟨pb, 0, none⟩)] w fun e w' => e = .returned (.tuple #[]) ∧ Rx w' pb ∧ On1 pb w w' := rfail_w h.c0 h.c1 h.z0 h.z1
theorem rfailx_c {pb : Nat} {w : World} (h : Rx w pb) :
  Calls Tryz.prog 72 #[.pointer (some ⟨pb, 0, none⟩)] w fun e w' => e = .returned (.tuple #[]) ∧ Rx w' pb ∧ On1 pb w w' := rfail_w h.c0 h.c1 h.z0 h.z1
def valI (f : Nat → Nat) : Nat → Int
 | 0 => 0
 | k + 1 => bits .or .i64 (valI f k) (wrap64 ((f k : Int) * 2 ^ (8 * k)))
theorem rnumx_c {pb m : Nat} {w : World} (h : Rx w pb) (hm : m ≤ 8) :
  Calls Tryz.prog 60 #[.pointer (some ⟨pb, 0, none⟩), .int .i64 (m : Nat)] w fun e w' => e = .returned (.int .i64 0) ∧ Rx w' pb ∧ On1 pb w w' := by
 have hmax : max (m : Int) 0 = (m : Int) := by omega
 have hmin : min (m : Int) 8 = (m : Int) := by omega
 have H := hid (rbadx_c h)
 have H2 := hid (rfailx_c h)
 clear h
 go_enter Tryz.func60, Tryz.ntmps60
 go_wp2_with fail
 refine H.out.mono ?_
 rintro e w1 ⟨rfl, rfl⟩
 go_wp2_with fail
 refine H2.out.mono ?_
 rintro e w1 ⟨rfl, hx, ho⟩
 have HX := hid hx; have HO := hid ho
 clear hx ho
 go_wp2_with fail
 go_ret
 exact ⟨rfl, HX.out, HO.out⟩
theorem rnums_c {pb m n c : Nat} {ao : Option Addr} {f : Nat → Nat} {w : World} (h : Re w pb ao n c f) (hm : m ≤ 8) (hs : n < m) :
  Calls Tryz.prog 60 #[.pointer (some ⟨pb, 0, none⟩), .int .i64 (m : Nat)] w fun e w' => e = .returned (.int .i64 0) ∧ Rx w' pb ∧ On1 pb w w' := by
 have hmax : max (m : Int) 0 = (m : Int) := by omega
 have hmin : min (m : Int) 8 = (m : Int) := by omega
 have c0 := h.c0
 have hlt : decide ((m : Int) > (n : Int)) = true := decide_eq_true (by omega)
 have H := hid (rbad_c h)
 have H2 := hid (rfail_c h)
 clear h
 go_enter Tryz.func60, Tryz.ntmps60
 go_wp2_with fail
 refine H.out.mono ?_
 rintro e w1 ⟨rfl, rfl⟩
 go_wp2_with fail
 refine H2.out.mono ?_
 rintro e w1 ⟨rfl, hx, ho⟩
 have HX := hid hx; have HO := hid ho
 clear hx ho
 go_wp2_with fail
 go_ret
 exact ⟨rfl, HX.out, HO.out⟩
end Go.Proofs.YtgdcphmmehedoaaGreat.Fx
/- Package pack: a reader reads a number, a count. -/
namespace Go.Proofs.YtgdcphmmehedoaaGreat.Fx
open Go.ChangeShapes Go.WideShapes Go.ChangeAt Go.RowKit
set_option linter.unusedVariables false
theorem Re.less {w : World} {pb n c m b off off' c' : Nat} {f : Nat → Nat} (h : Re w pb (some ⟨b, off, none⟩) n c f) (hm : m ≤ n) (hc : n - m ≤ c') (ht : c' ≤ maxLen) (ho : off' = off + m ∨ n ≤ m) :
  Re (w.setCell ⟨pb, 0, none⟩ (.slice (some ⟨b, off', none⟩) (n - m) c')) pb (some ⟨b, off', none⟩) (n - m) c' (fun i => f (m + i)) := by
 have hl := h.here
 have c0 := h.c0
 have c1 := h.c1
 have z0 := h.z0
 have z1 := h.z1
 have hb : b ≠ pb := h.off b off rfl
 refine ⟨?_, ?_, ?_, ?_, ?_, hc, ht, fun b' off' e => by cases e; exact hb⟩
 ·go_simp
 ·go_simp
 ·go_simp
 ·go_simp
 ·rcases ho with rfl | ho
  ·exact (h.by_.drop m).on1 ((On1.rfl_ pb w).put 0 _) fun b' off' e => by cases e; exact hb
  ·intro hp
   omega
end Go.Proofs.YtgdcphmmehedoaaGreat.Fx
/- Plain words: numbers, turns, vectors, shapes, masses. No Go in sight. -/
/- The plain arithmetic of fixed-point numbers: no Go in sight. -/
namespace Go.Proofs.YtgdcphmmehedoaaGreat.Fx
def L : Int := -9223372036854775807
def M : Int := 9223372036854775807
def I64 (a : Int) : Prop := -9223372036854775808 ≤ a ∧ a ≤ 9223372036854775807
def cl (a : Int) : Int := if a < -9223372036854775807 then -9223372036854775807 else a
theorem cl_bd {a : Int} (h : I64 a) : L ≤ cl a ∧ cl a ≤ M := by
 unfold cl L M I64 at *; split <;> omega
def sat (a : Int) : Int := if a < -9223372036854775807 then -9223372036854775807 else if 9223372036854775807 < a then 9223372036854775807 else a
theorem sat_bd (a : Int) : L ≤ sat a ∧ sat a ≤ M := by
 unfold sat L M; split
 ·omega
 ·split <;> omega
def addF (a b : Int) : Int := sat (cl a + cl b)
def negF (a : Int) : Int := - cl a
def subF (a b : Int) : Int := addF a (negF b)
def absF (a : Int) : Int := if a < 0 then negF a else a
theorem absF_bd {a : Int} (h : I64 a) : 0 ≤ absF a ∧ absF a ≤ M := by
 unfold absF negF cl I64 M at *; split
 ·split <;> omega
 ·omega
def signF (n : Int) (t : Bool) : Int := if t then -(if n < 9223372036854775807 then n else 9223372036854775807) else (if n < 9223372036854775807 then n else 9223372036854775807)
def mulF (a b : Int) : Int := signF (absF a * absF b / 4294967296) (decide (a < 0) != decide (b < 0))
def ofF (n : Int) : Int := if 2147483647 < n then 9223372036854775807 else if n < -2147483647 then -9223372036854775807 else n * 4294967296
def bringF (a b c : Int) : Int := if cl a < cl b then cl b else if cl c < cl a then cl c else cl a
def divF (a b : Int) : Int := if a = 0 then 0 else signF (if absF b = 0 then 9223372036854775807 else absF a * 4294967296 / absF b) (decide (a < 0) != decide (b < 0))
def partF (n d : Int) : Int := divF (ofF n) (ofF d)
def sqAux (P : Int) : Nat → Int → Int
 | 0, r => r
 | k + 1, r => if (r + 2 ^ k) * (r + 2 ^ k) ≤ P then sqAux P k (r + 2 ^ k) else sqAux P k r
def sqrtF (a : Int) : Int := if a ≤ 0 then 0 else sqAux (a * 4294967296) 48 0
end Go.Proofs.YtgdcphmmehedoaaGreat.Fx
/- The plain laws of fixed-point numbers: no Go in sight. -/
namespace Go.Proofs.YtgdcphmmehedoaaGreat.Fx
set_option linter.unusedVariables false
def Rg (a : Int) : Prop := -9223372036854775807 ≤ a ∧ a ≤ 9223372036854775807
theorem absR {a : Int} (h : Rg a) : absF a = if a < 0 then -a else a := by
 unfold absF negF cl Rg at *
 split
 ·rw [if_neg (by omega)]
 ·rfl
theorem absR_bd {a : Int} (h : Rg a) : 0 ≤ absF a ∧ absF a ≤ 9223372036854775807 := by
 rw [absR h]; unfold Rg at h; split <;> omega
theorem absR_neg {a : Int} (h : Rg a) : absF (-a) = absF a := by
 rw [absR h, absR (by unfold Rg at *; omega)]; (repeat' split) <;> omega
theorem sign_zero (t : Bool) : signF 0 t = 0 := by cases t <;> decide
theorem sign_abs {a : Int} (h : Rg a) : signF (absF a) (decide (a < 0)) = a := by
 have hb := absR_bd h
 have e : signF (absF a) (decide (a < 0)) = if a < 0 then - absF a else absF a := by
  unfold signF
  by_cases c : a < 0
  ·rw [decide_eq_true c, if_pos rfl, if_pos c]; split <;> omega
  ·rw [decide_eq_false c, if_neg (by simp), if_neg c]; split <;> omega
 rw [e, absR h]; (repeat' split) <;> omega
theorem mul_one {a : Int} (h : Rg a) : mulF a 4294967296 = a := by
 have e : absF 4294967296 = 4294967296 := by decide
 unfold mulF
 rw [e, Int.mul_ediv_cancel _ (by omega)]
 have : decide ((4294967296 : Int) < 0) = false := by decide
 rw [this, Bool.bne_false]
 exact sign_abs h
theorem mul_zero (a : Int) : mulF a 0 = 0 := by
 have e : absF 0 = 0 := by decide
 unfold mulF; rw [e, Int.mul_zero]; exact sign_zero _
theorem Rg_neg {a : Int} (h : Rg a) : Rg (-a) := by unfold Rg at *; omega
theorem clR {a : Int} (h : Rg a) : cl a = a := by unfold cl Rg at *; rw [if_neg (by omega)]
theorem addR {a b : Int} (ha : Rg a) (hb : Rg b) : addF a b = sat (a + b) := by unfold addF; rw [clR ha, clR hb]
theorem satR {a : Int} (h : Rg a) : sat a = a := by unfold sat Rg at *; rw [if_neg (by omega), if_neg (by omega)]
theorem add_zero {a : Int} (h : Rg a) : addF a 0 = a := by
 rw [addR h (by unfold Rg; omega), Int.add_zero, satR h]
theorem negR {a : Int} (h : Rg a) : negF a = -a := by unfold negF; rw [clR h]
theorem sub_self {a : Int} (h : Rg a) : subF a a = 0 := by
 unfold subF
 rw [negR h, addR h (Rg_neg h), show a + -a = 0 from by omega]; decide
end Go.Proofs.YtgdcphmmehedoaaGreat.Fx
/- The plain laws of fixed-point numbers: what comes back. -/
namespace Go.Proofs.YtgdcphmmehedoaaGreat.Fx
set_option linter.unusedVariables false
theorem sign_small {n : Int} (t : Bool) (h1 : n ≤ 9223372036854775807) : signF n t = if t then -n else n := by
 unfold signF; cases t <;> simp <;> omega
def Sm (a : Int) : Prop := -70368744177664 < a ∧ a < 70368744177664
end Go.Proofs.YtgdcphmmehedoaaGreat.Fx
/- The table of sines, plain: the numbers of the program's own table. -/
namespace Go.Proofs.YtgdcphmmehedoaaGreat.Fx
def tabL : List Int := [0, 26353424, 52705856, 79056303, 105403774, 131747276, 158085819, 184418409, 210744057, 237061769, 263370557, 289669429,
 315957395, 342233465, 368496651, 394745962, 420980412, 447199012, 473400776, 499584716, 525749847, 551895183, 578019742, 604122538,
 630202589, 656258914, 682290530, 708296459, 734275721, 760227338, 786150333, 812043729, 837906553, 863737830, 889536587, 915301854,
 941032661, 966728038, 992387019, 1018008636, 1043591926, 1069135926, 1094639673, 1120102207, 1145522571, 1170899806, 1196232957, 1221521071,
 1246763195, 1271958380, 1297105676, 1322204136, 1347252816, 1372250773, 1397197066, 1422090755, 1446930903, 1471716574, 1496446837, 1521120759,
 1545737412, 1570295869, 1594795204, 1619234497, 1643612827, 1667929275, 1692182927, 1716372869, 1740498191, 1764557983, 1788551342, 1812477362,
 1836335144, 1860123788, 1883842400, 1907490086, 1931065957, 1954569124, 1977998702, 2001353810, 2024633568, 2047837100, 2070963532, 2094011993,
 2116981616, 2139871536, 2162680890, 2185408821, 2208054473, 2230616993, 2253095531, 2275489241, 2297797281, 2320018810, 2342152991, 2364198992,
 2386155981, 2408023134, 2429799626, 2451484637, 2473077351, 2494576955, 2515982640, 2537293599, 2558509031, 2579628136, 2600650120, 2621574191,
 2642399561, 2663125446, 2683751066, 2704275644, 2724698408, 2745018589, 2765235421, 2785348143, 2805355999, 2825258235, 2845054101, 2864742853,
 2884323748, 2903796051, 2923159027, 2942411948, 2961554089, 2980584729, 2999503152, 3018308645, 3037000500, 3055578014, 3074040487, 3092387225,
 3110617535, 3128730733, 3146726136, 3164603066, 3182360851, 3199998822, 3217516315, 3234912670, 3252187232, 3269339351, 3286368382, 3303273682,
 3320054617, 3336710553, 3353240863, 3369644927, 3385922125, 3402071844, 3418093478, 3433986423, 3449750080, 3465383855, 3480887161, 3496259414,
 3511500034, 3526608449, 3541584088, 3556426389, 3571134792, 3585708745, 3600147697, 3614451106, 3628618433, 3642649144, 3656542712, 3670298613,
 3683916329, 3697395348, 3710735162, 3723935269, 3736995171, 3749914379, 3762692404, 3775328765, 3787822988, 3800174601, 3812383140, 3824448145,
 3836369162, 3848145741, 3859777440, 3871263820, 3882604450, 3893798902, 3904846754, 3915747591, 3926501002, 3937106583, 3947563934, 3957872662,
 3968032378, 3978042699, 3987903250, 3997613658, 4007173558, 4016582591, 4025840401, 4034946641, 4043900968, 4052703044, 4061352537, 4069849124,
 4078192482, 4086382299, 4094418266, 4102300081, 4110027446, 4117600071, 4125017671, 4132279966, 4139386683, 4146337555, 4153132319, 4159770720,
 4166252509, 4172577440, 4178745276, 4184755784, 4190608739, 4196303920, 4201841112, 4207220108, 4212440704, 4217502704, 4222405917, 4227150159,
 4231735252, 4236161021, 4240427302, 4244533933, 4248480760, 4252267634, 4255894413, 4259360959, 4262667143, 4265812840, 4268797931, 4271622305,
 4274285855, 4276788480, 4279130086, 4281310585, 4283329896, 4285187942, 4286884652, 4288419964, 4289793820, 4291006167, 4292056960, 4292946160,
 4293673732, 4294239650, 4294643893, 4294886444, 4294967296]
def tabF (n : Int) : Int := if n < 0 ∨ 257 ≤ n then 0 else tabL.getD n.toNat 0
end Go.Proofs.YtgdcphmmehedoaaGreat.Fx
/- Plain words for vectors: bounds of what the calls answer. -/
namespace Go.Proofs.YtgdcphmmehedoaaGreat.Fx
set_option linter.unusedVariables false
theorem i64_rg {a : Int} (h : Rg a) : I64 a := by unfold Rg I64 at *; omega
theorem absF_nn (a : Int) : 0 ≤ absF a := by unfold absF negF cl; (repeat' split) <;> omega
theorem rg_sign {n : Int} (t : Bool) (h : 0 ≤ n) : Rg (signF n t) := by unfold signF Rg; (repeat' split) <;> omega
theorem rg_mul (a b : Int) : Rg (mulF a b) := by
 unfold mulF; exact rg_sign _ (Int.ediv_nonneg (Int.mul_nonneg (absF_nn _) (absF_nn _)) (by omega))
theorem rg_div (a b : Int) : Rg (divF a b) := by
 unfold divF; split
 ·unfold Rg; omega
 ·refine rg_sign _ ?_
  split
  ·omega
  ·have := absF_nn b
   exact Int.ediv_nonneg (Int.mul_nonneg (absF_nn _) (by omega)) this
theorem rg_sat (a : Int) : Rg (sat a) := by unfold sat Rg; (repeat' split) <;> omega
theorem rg_add (a b : Int) : Rg (addF a b) := rg_sat _
theorem rg_sub (a b : Int) : Rg (subF a b) := rg_sat _
theorem sqAux_bd (P : Int) : ∀ (k : Nat) (r : Int), r ≤ sqAux P k r ∧ sqAux P k r < r + 2 ^ k
 | 0, r => by simp [sqAux]; omega
 | k + 1, r => by
  have hp : (0 : Int) < 2 ^ k := Int.pow_pos (by omega)
  have e : (2 : Int) ^ (k + 1) = 2 ^ k + 2 ^ k := by rw [Int.pow_succ]; omega
  have h1 := sqAux_bd P k (r + 2 ^ k)
  have h2 := sqAux_bd P k r
  rw [sqAux, e]; split <;> omega
theorem sqrt_bd (a : Int) : 0 ≤ sqrtF a ∧ sqrtF a < 281474976710656 := by
 unfold sqrtF; split
 ·omega
 ·have := sqAux_bd (a * 4294967296) 48 0
  have e : (2 : Int) ^ 48 = 281474976710656 := by decide
  rw [e] at this; omega
theorem i64_mul (a b : Int) : I64 (mulF a b) := i64_rg (rg_mul a b)
theorem i64_div (a b : Int) : I64 (divF a b) := i64_rg (rg_div a b)
theorem i64_add (a b : Int) : I64 (addF a b) := i64_rg (rg_add a b)
theorem i64_sub (a b : Int) : I64 (subF a b) := i64_rg (rg_sub a b)
theorem i64_sqrt (a : Int) : I64 (sqrtF a) := by have := sqrt_bd a; unfold I64; omega
theorem i64_neg {a : Int} (h : I64 a) : I64 (negF a) := by have := cl_bd h; unfold negF I64 L M at *; omega
def lenF (a b : Int) : Int := sqrtF (addF (mulF a a) (mulF b b))
end Go.Proofs.YtgdcphmmehedoaaGreat.Fx
/- Lengths, plain: what a length says of the squares, and a unit vector's length. -/
namespace Go.Proofs.YtgdcphmmehedoaaGreat.Fx
set_option linter.unusedVariables false
theorem sq_nn (x : Int) : 0 ≤ x * x := by
 rcases Int.le_total 0 x with h | h
 ·exact Int.mul_nonneg h h
 ·have := Int.mul_nonneg (a := -x) (b := -x) (by omega) (by omega)
  rw [Int.neg_mul_neg] at this; exact this
theorem prod_in {x y X Y : Int} (hx0 : -X ≤ x) (hx1 : x ≤ X) (hy0 : -Y ≤ y) (hy1 : y ≤ Y) : -(X * Y) ≤ x * y ∧ x * y ≤ X * Y := by
 rcases Int.le_total 0 x with h | h
 ·have a1 : x * y ≤ x * Y := Int.mul_le_mul_of_nonneg_left hy1 h
  have a2 : x * (-Y) ≤ x * y := Int.mul_le_mul_of_nonneg_left hy0 h
  have a3 : x * Y ≤ X * Y := Int.mul_le_mul_of_nonneg_right hx1 (by omega)
  rw [Int.mul_neg] at a2
  omega
 ·have a1 : (-x) * y ≤ (-x) * Y := Int.mul_le_mul_of_nonneg_left hy1 (by omega)
  have a2 : (-x) * (-Y) ≤ (-x) * y := Int.mul_le_mul_of_nonneg_left hy0 (by omega)
  have a3 : (-x) * Y ≤ X * Y := Int.mul_le_mul_of_nonneg_right (by omega) (by omega)
  rw [Int.neg_mul_neg] at a2
  rw [Int.neg_mul] at a1 a2 a3
  rw [Int.neg_mul] at a1
  omega
end Go.Proofs.YtgdcphmmehedoaaGreat.Fx
/- Lengths, plain: a length against its parts, and the way along two others. -/
namespace Go.Proofs.YtgdcphmmehedoaaGreat.Fx
set_option linter.unusedVariables false
end Go.Proofs.YtgdcphmmehedoaaGreat.Fx
/- Plain words for shapes: corners by a function, what a shape must keep. No Go in sight. -/
namespace Go.Proofs.YtgdcphmmehedoaaGreat.Fx
set_option linter.unusedVariables false
abbrev Cs := Nat → Int × Int
def crossF (f : Cs) (i k j : Nat) : Int :=
 subF (mulF (subF (f k).1 (f i).1) (subF (f j).2 (f i).2)) (mulF (subF (f k).2 (f i).2) (subF (f j).1 (f i).1))
def NearP (p : Int × Int) : Prop := (-274877906944 ≤ p.1 ∧ p.1 ≤ 274877906944) ∧ (-274877906944 ≤ p.2 ∧ p.2 ≤ 274877906944)
def CvxP (f : Cs) (n : Nat) : Prop := ∀ i, i < n → ∀ j, j < n → j ≠ i → j ≠ (i + 1) % n → 0 < crossF f i ((i + 1) % n) j
def RightP (K R : Int) (n : Nat) (f : Cs) : Prop :=
 (K = 1 ∧ n = 0 ∧ 16777216 ≤ R ∧ R ≤ 274877906944) ∨ (K = 2 ∧ R = 0 ∧ 3 ≤ n ∧ n ≤ 8 ∧ (∀ i, i < n → NearP (f i)) ∧ CvxP f n)
theorem cvx_on {f : Cs} {n : Nat} (h3 : 3 ≤ n) (h8 : n ≤ 8) : CvxP f n ↔ ∀ i, i < n → ∀ on, 2 ≤ on → on < n → 0 < crossF f i ((i + 1) % n) ((i + on) % n) := by
 constructor
 ·intro h i hi on h2 hn
  refine h i hi _ (Nat.mod_lt _ (by omega)) ?_ ?_
  ·rcases (show n = 3 ∨ n = 4 ∨ n = 5 ∨ n = 6 ∨ n = 7 ∨ n = 8 by omega) with rfl | rfl | rfl | rfl | rfl | rfl <;> omega
  ·rcases (show n = 3 ∨ n = 4 ∨ n = 5 ∨ n = 6 ∨ n = 7 ∨ n = 8 by omega) with rfl | rfl | rfl | rfl | rfl | rfl <;> omega
 ·intro h i hi j hj h1 h2
  have e : ∃ on, 2 ≤ on ∧ on < n ∧ (i + on) % n = j := by
   refine ⟨(j + n - i) % n, ?_, Nat.mod_lt _ (by omega), ?_⟩ <;>
   rcases (show n = 3 ∨ n = 4 ∨ n = 5 ∨ n = 6 ∨ n = 7 ∨ n = 8 by omega) with rfl | rfl | rfl | rfl | rfl | rfl <;> omega
  obtain ⟨on, a, b, rfl⟩ := e
  exact h i hi on a b
theorem near_bring {x : Int} (h : I64 x) : bringF x (negF 274877906944) 274877906944 = x ↔ (-274877906944 ≤ x ∧ x ≤ 274877906944) := by
 have e : negF 274877906944 = -274877906944 := by decide
 rw [e]; unfold bringF cl I64 at *
 constructor
 ·intro h1; revert h1; (repeat' split) <;> omega
 ·intro h1; (repeat' split) <;> omega
def Top (f : Cs) (n : Nat) (r : Int) : Prop := 0 ≤ r ∧ (∀ i, i < n → lenF (f i).1 (f i).2 ≤ r) ∧ (r = 0 ∨ ∃ i, i < n ∧ r = lenF (f i).1 (f i).2)
end Go.Proofs.YtgdcphmmehedoaaGreat.Fx
/- Plain words for shapes whose corners lie on a grid: boxes, and places of the ring. -/
namespace Go.Proofs.YtgdcphmmehedoaaGreat.Fx
set_option linter.unusedVariables false
def grid (x y : Nat → Int) (k : Int) : Cs := fun i => (x i * (k * 4194304), y i * (k * 4194304))
def icross (x y : Nat → Int) (i k j : Nat) : Int := (x k - x i) * (y j - y i) - (y k - y i) * (x j - x i)
structure Grid (x y : Nat → Int) (k : Int) (n : Nat) : Prop where
 k0 : 1 ≤ k
 k1 : k ≤ 64
 n0 : 3 ≤ n
 n1 : n ≤ 8
 xb : ∀ i, i < n → -65 ≤ x i ∧ x i ≤ 65
 yb : ∀ i, i < n → -65 ≤ y i ∧ y i ≤ 65
 cv : ∀ i, i < n → ∀ j, j < n → j ≠ i → j ≠ (i + 1) % n → 0 < icross x y i ((i + 1) % n) j
theorem mul_exact {a b c : Int} (ha : Rg a) (hb : Rg b) (hc : Rg c) (h : a * b = 4294967296 * c) : mulF a b = c := by
 unfold mulF
 rw [absR ha, absR hb]
 by_cases h0 : a < 0 <;> by_cases h1 : b < 0 <;> simp only [h0, h1, if_true, if_false, decide_true, decide_false, bne_self_eq_false, Bool.true_bne, Bool.false_bne, Bool.not_false]
 ·have e : -a * -b = 4294967296 * c := by rw [Int.neg_mul_neg]; exact h
  have p : 0 < a * b := Int.mul_pos_of_neg_of_neg h0 h1
  rw [e, Int.mul_ediv_cancel_left c (by omega), sign_small false (by unfold Rg at hc; omega)]; simp
 ·have e : -a * b = 4294967296 * (-c) := by rw [Int.neg_mul, h]; omega
  rw [e, Int.mul_ediv_cancel_left _ (by omega), sign_small true (by unfold Rg at hc; omega)]; simp
 ·have e : a * -b = 4294967296 * (-c) := by rw [Int.mul_neg, h]; omega
  rw [e, Int.mul_ediv_cancel_left _ (by omega), sign_small true (by unfold Rg at hc; omega)]; simp
 ·rw [h, Int.mul_ediv_cancel_left c (by omega), sign_small false (by unfold Rg at hc; omega)]; simp
theorem sub_exact {a b : Int} (ha : Rg a) (hb : Rg b) (h : Rg (a - b)) : subF a b = a - b := by
 unfold subF
 rw [negR hb, addR ha (Rg_neg hb), satR (by rw [← Int.sub_eq_add_neg]; exact h), Int.sub_eq_add_neg]
def St (z : Int) : Prop := 4194304 ≤ z ∧ z ≤ 268435456
theorem st_of {k : Int} (h0 : 1 ≤ k) (h1 : k ≤ 64) : St (k * 4194304) := by unfold St; omega
theorem st_mul {z a A : Int} (hz : St z) (h0 : -A ≤ a) (h1 : a ≤ A) (hA : 0 ≤ A) : -(268435456 * A) ≤ a * z ∧ a * z ≤ 268435456 * A := by
 have h := prod_in (x := a) (y := z) (X := A) (Y := 268435456) h0 h1 (by unfold St at hz; omega) hz.2
 rw [Int.mul_comm 268435456 A]; exact h
theorem st_rg {z a : Int} (hz : St z) (h0 : -200 ≤ a) (h1 : a ≤ 200) : Rg (a * z) ∧ -53687091200 ≤ a * z ∧ a * z ≤ 53687091200 := by
 have h := st_mul hz h0 h1 (by omega)
 unfold Rg; omega
theorem sub_grid {z a b : Int} (hz : St z) (ha : -65 ≤ a ∧ a ≤ 65) (hb : -65 ≤ b ∧ b ≤ 65) : subF (a * z) (b * z) = (a - b) * z := by
 have e : (a - b) * z = a * z - b * z := Int.sub_mul a b z
 rw [sub_exact (st_rg hz (by omega) (by omega)).1 (st_rg hz (by omega) (by omega)).1 (by rw [← e]; exact (st_rg hz (by omega) (by omega)).1), e]
theorem mul_grid {k a b : Int} (h0 : 1 ≤ k) (h1 : k ≤ 64) (ha : -130 ≤ a ∧ a ≤ 130) (hb : -130 ≤ b ∧ b ≤ 130) : mulF (a * (k * 4194304)) (b * (k * 4194304)) = a * b * (k * k * 4096) ∧ -283548057600 ≤ a * b * (k * k * 4096) ∧ a * b * (k * k * 4096) ≤ 283548057600 := by
 have hz := st_of h0 h1
 have kk := prod_in (x := k) (y := k) (X := 64) (Y := 64) (by omega) h1 (by omega) h1
 have k2 := sq_nn k
 have ab := prod_in (x := a) (y := b) (X := 130) (Y := 130) ha.1 ha.2 hb.1 hb.2
 have q := prod_in (x := a * b) (y := k * k * 4096) (X := 16900) (Y := 16777216) (by omega) (by omega) (by omega) (by omega)
 have e : a * (k * 4194304) * (b * (k * 4194304)) = 4294967296 * (a * b * (k * k * 4096)) := by
  have e0 : ∀ z : Int, a * (k * z) * (b * (k * z)) = a * b * (k * k) * (z * z) := fun z => by ac_rfl
  rw [e0, show a * b * (k * k * 4096) = a * b * (k * k) * 4096 from (Int.mul_assoc _ _ _).symm]; omega
 refine ⟨mul_exact (st_rg hz (by omega) (by omega)).1 (st_rg hz (by omega) (by omega)).1 (by unfold Rg; omega) e, by omega, by omega⟩
theorem cross_grid {x y : Nat → Int} {k : Int} {n i l j : Nat} (g : Grid x y k n) (hi : i < n) (hl : l < n) (hj : j < n) : crossF (grid x y k) i l j = icross x y i l j * (k * k * 4096) := by
 have hz := st_of g.k0 g.k1
 have xi := g.xb i hi; have xl := g.xb l hl; have xj := g.xb j hj
 have yi := g.yb i hi; have yl := g.yb l hl; have yj := g.yb j hj
 unfold crossF grid icross
 simp only []
 rw [sub_grid hz xl xi, sub_grid hz yj yi, sub_grid hz yl yi, sub_grid hz xj xi]
 obtain ⟨e1, b1, b2⟩ := mul_grid (a := x l - x i) (b := y j - y i) g.k0 g.k1 (by omega) (by omega)
 obtain ⟨e2, b3, b4⟩ := mul_grid (a := y l - y i) (b := x j - x i) g.k0 g.k1 (by omega) (by omega)
 rw [e1, e2, sub_exact (by unfold Rg; omega) (by unfold Rg; omega) (by unfold Rg; omega)]
 exact (Int.sub_mul _ _ _).symm
theorem kk_pos {k : Int} (h0 : 1 ≤ k) : 0 < k * k * 4096 := by
 have := Int.mul_pos (show 0 < k by omega) (show 0 < k by omega); omega
theorem pos_mul {a z : Int} (hz : 0 < z) : 0 < a * z ↔ 0 < a := by
 constructor
 ·intro h
  refine Int.not_le.1 fun h0 => ?_
  have := Int.mul_le_mul_of_nonneg_right h0 (show 0 ≤ z by omega)
  omega
 ·intro h; exact Int.mul_pos h hz
theorem grid_i64 {x y : Nat → Int} {k : Int} {n : Nat} (g : Grid x y k n) : ∀ i, i < n → I64 (grid x y k i).1 ∧ I64 (grid x y k i).2 := fun i hi =>
 ⟨i64_rg (st_rg (st_of g.k0 g.k1) (by have := g.xb i hi; omega) (by have := g.xb i hi; omega)).1, i64_rg (st_rg (st_of g.k0 g.k1) (by have := g.yb i hi; omega) (by have := g.yb i hi; omega)).1⟩
theorem grid_near {x y : Nat → Int} {k : Int} {n : Nat} (g : Grid x y k n) : ∀ i, i < n → NearP (grid x y k i) := fun i hi => by
 have a := st_rg (st_of g.k0 g.k1) (a := x i) (by have := g.xb i hi; omega) (by have := g.xb i hi; omega)
 have b := st_rg (st_of g.k0 g.k1) (a := y i) (by have := g.yb i hi; omega) (by have := g.yb i hi; omega)
 unfold NearP grid
 simp only []
 omega
theorem grid_right {x y : Nat → Int} {k : Int} {n : Nat} (g : Grid x y k n) : RightP 2 0 n (grid x y k) := by
 refine .inr ⟨rfl, rfl, g.n0, g.n1, grid_near g, fun i hi j hj h1 h2 => ?_⟩
 rw [cross_grid g hi (Nat.mod_lt _ (by have := g.n0; omega)) hj]
 exact (pos_mul (kk_pos g.k0)).2 (g.cv i hi j hj h1 h2)
def ringL : List (Int × Int) := [(65, 0), (52, 39), (25, 60), (-25, 60), (-52, 39), (-65, 0), (-52, -39), (-25, -60), (25, -60), (52, -39)]
def ringX (n t i : Nat) : Int := (ringL.getD ((i * 10 / n + t) % 10) (0, 0)).1
def ringY (n t i : Nat) : Int := (ringL.getD ((i * 10 / n + t) % 10) (0, 0)).2
def ringOk (n t : Nat) : Bool := (List.range n).all fun i => decide (-65 ≤ ringX n t i) && decide (ringX n t i ≤ 65) && decide (-65 ≤ ringY n t i) && decide (ringY n t i ≤ 65) &&
 (List.range n).all fun j => decide (j = i) || decide (j = (i + 1) % n) || decide (0 < icross (ringX n t) (ringY n t) i ((i + 1) % n) j)
theorem ring_check : (List.range 6).all (fun n => (List.range 10).all fun t => ringOk (3 + n) t) = true := by decide +kernel
theorem ring_mod (n t : Nat) : ringX n t = ringX n (t % 10) ∧ ringY n t = ringY n (t % 10) := by
 constructor <;> funext i <;> (first | unfold ringX | unfold ringY) <;> rw [Nat.add_mod_mod]
theorem ring_grid {k : Int} {n : Nat} (t : Nat) (k0 : 1 ≤ k) (k1 : k ≤ 64) (n0 : 3 ≤ n) (n1 : n ≤ 8) : Grid (ringX n t) (ringY n t) k n := by
 have h := ring_check
 rw [List.all_eq_true] at h
 have h1 := h (n - 3) (List.mem_range.2 (by omega))
 rw [List.all_eq_true] at h1
 have h2 := h1 (t % 10) (List.mem_range.2 (Nat.mod_lt _ (by omega)))
 rw [show 3 + (n - 3) = n by omega] at h2
 unfold ringOk at h2
 rw [List.all_eq_true] at h2
 rw [(ring_mod n t).1, (ring_mod n t).2]
 refine ⟨k0, k1, n0, n1, fun i hi => ?_, fun i hi => ?_, fun i hi j hj a b => ?_⟩
 ·have h3 := h2 i (List.mem_range.2 hi)
  simp only [Bool.and_eq_true, decide_eq_true_eq] at h3
  omega
 ·have h3 := h2 i (List.mem_range.2 hi)
  simp only [Bool.and_eq_true, decide_eq_true_eq] at h3
  omega
 ·have h3 := h2 i (List.mem_range.2 hi)
  simp only [Bool.and_eq_true, decide_eq_true_eq] at h3
  have h4 := h3.2
  rw [List.all_eq_true] at h4
  have h5 := h4 j (List.mem_range.2 hj)
  simp only [Bool.or_eq_true, decide_eq_true_eq] at h5
  rcases h5 with (h5 | h5) | h5
  ·exact absurd h5 a
  ·exact absurd h5 b
  ·exact h5
def boxX (a : Int) (i : Nat) : Int := if i = 0 ∨ i = 3 then -a else a
def boxY (b : Int) (i : Nat) : Int := if i = 0 ∨ i = 1 then -b else b
theorem box_grid {a b : Int} (a0 : 1 ≤ a) (a1 : a ≤ 64) (b0 : 1 ≤ b) (b1 : b ≤ 64) : Grid (boxX a) (boxY b) 64 4 := by
 have p := Int.mul_pos (show 0 < a by omega) (show 0 < b by omega)
 refine ⟨by omega, by omega, by omega, by omega, fun i hi => by unfold boxX; split <;> omega, fun i hi => by unfold boxY; split <;> omega, fun i hi j hj h1 h2 => ?_⟩
 unfold icross
 rcases (show i = 0 ∨ i = 1 ∨ i = 2 ∨ i = 3 by omega) with rfl | rfl | rfl | rfl <;> rcases (show j = 0 ∨ j = 1 ∨ j = 2 ∨ j = 3 by omega) with rfl | rfl | rfl | rfl <;>
  first
  | (exfalso; omega)
  | (simp only [boxX, boxY, true_or, or_true, if_true, if_false, Nat.reduceAdd, Nat.reduceMod, Nat.reduceEqDiff, or_self, Int.sub_mul, Int.mul_sub, Int.mul_neg, Int.neg_mul, Int.mul_comm b a]; omega)
end Go.Proofs.YtgdcphmmehedoaaGreat.Fx
/- Plain words for shapes: the ways away from the sides. -/
namespace Go.Proofs.YtgdcphmmehedoaaGreat.Fx
set_option linter.unusedVariables false
def uF (a b : Int) : Int × Int := if lenF a b = 0 then (0, 0) else (divF a (lenF a b), divF b (lenF a b))
def normF (f : Cs) (n i : Nat) : Int × Int :=
 let u := uF (subF (f ((i + 1) % n)).1 (f i).1) (subF (f ((i + 1) % n)).2 (f i).2)
 (u.2, negF u.1)
end Go.Proofs.YtgdcphmmehedoaaGreat.Fx
/- Grids around the middle: the middle lies to the left of each side. No Go in sight. -/
namespace Go.Proofs.YtgdcphmmehedoaaGreat.Fx
set_option linter.unusedVariables false
def Round (x y : Nat → Int) (n : Nat) : Prop := ∀ i, i < n → 0 ≤ x i * y ((i + 1) % n) - y i * x ((i + 1) % n)
theorem box_round {a b : Int} (a0 : 1 ≤ a) (b0 : 1 ≤ b) : Round (boxX a) (boxY b) 4 := fun i hi => by
 have p := Int.mul_pos (show 0 < a by omega) (show 0 < b by omega)
 rcases (show i = 0 ∨ i = 1 ∨ i = 2 ∨ i = 3 by omega) with rfl | rfl | rfl | rfl <;>
  (simp only [boxX, boxY, true_or, or_true, if_true, if_false, Nat.reduceAdd, Nat.reduceMod, Nat.reduceEqDiff, or_self, Int.mul_neg, Int.neg_mul, Int.mul_comm b a]; omega)
def roundOk (n t : Nat) : Bool := (List.range n).all fun i => decide (0 ≤ ringX n t i * ringY n t ((i + 1) % n) - ringY n t i * ringX n t ((i + 1) % n))
theorem round_check : (List.range 6).all (fun n => (List.range 10).all fun t => roundOk (3 + n) t) = true := by decide +kernel
theorem ring_round {n : Nat} (t : Nat) (n0 : 3 ≤ n) (n1 : n ≤ 8) : Round (ringX n t) (ringY n t) n := fun i hi => by
 have h := round_check
 rw [List.all_eq_true] at h
 have h1 := h (n - 3) (List.mem_range.2 (by omega))
 rw [List.all_eq_true] at h1
 have h2 := h1 (t % 10) (List.mem_range.2 (Nat.mod_lt _ (by omega)))
 rw [show 3 + (n - 3) = n by omega] at h2
 unfold roundOk at h2
 rw [List.all_eq_true] at h2
 have h3 := h2 i (List.mem_range.2 hi)
 rw [(ring_mod n t).1, (ring_mod n t).2]
 simpa using h3
end Go.Proofs.YtgdcphmmehedoaaGreat.Fx
/- Plain words for masses: areas, and how a shape resists to be spun, of grids, circles and rectangles. No Go in sight. -/
namespace Go.Proofs.YtgdcphmmehedoaaGreat.Fx
set_option linter.unusedVariables false
def crossV (a b : Int × Int) : Int := subF (mulF a.1 b.2) (mulF a.2 b.1)
def dotV (a b : Int × Int) : Int := addF (mulF a.1 b.1) (mulF a.2 b.2)
def areaT (a b : Int × Int) : Int := divF (crossV a b) 8589934592
def roundT (a b : Int × Int) : Int := divF (mulF (crossV a b) (addF (addF (dotV a a) (dotV a b)) (dotV b b))) 51539607552
def sumT (T : Int × Int → Int × Int → Int) (f : Cs) (n : Nat) : Nat → Int
 | 0 => 0
 | m + 1 => addF (sumT T f n m) (T (f m) (f ((m + 1) % n)))
def sumP (T : Int × Int → Int × Int → Int) (f : Cs) (n : Nat) : Nat → Int
 | 0 => 0
 | m + 1 => sumP T f n m + T (f m) (f ((m + 1) % n))
section
variable {x y : Nat → Int} {k : Int} {n i l : Nat}
def twice (f : Cs) : Cs := fun i => (2 * (f i).1, 2 * (f i).2)
end
end Go.Proofs.YtgdcphmmehedoaaGreat.Fx