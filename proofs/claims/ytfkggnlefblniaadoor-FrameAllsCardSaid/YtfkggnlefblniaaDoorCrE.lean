/- Contracts of package crc: Open; bytes as strings; the anchor. -/
import Derived.Test.YtfkggnlefblniaaDoorCrD
import Derived.Lib.SmallJoins
import Derived.Laws.Strings
namespace Go.Proofs.YtfkggnlefblniaaDoor.Fx
open Go.ChangeShapes Go.WideShapes Go.ChangeAt Go.RowKit
set_option linter.unusedVariables false

theorem conv_by {w : World} {n c : Nat} {ao : Option Addr} {f : Nat → Nat} (hB : By w ao n f) : (convert 22 9 (.slice ao n c)).run Tryd.prog w = .ok (.string (strB f n)) w := by
  rw [run_convert_bytes_string w _ _ 5 ao n c Tryd.underlying22 Tryd.underlying5 Tryd.underlying9]
  by_cases hn : n = 0
  · subst hn
    cases ao with
    | none => simp [Conv.bytesToString, strB, Sem.run_pure]
    | some a => exact run_bytesToString w a 0 c [] (run_loadCells_list w a [] (by simp))
  · obtain ⟨b, off, rfl, hc⟩ := hB (by omega)
    have h := run_loadCells_list (P := Tryd.prog) w ⟨b, off, none⟩ (((List.range n).map fun i => ((f i : Nat) : Int)).map (Value.int .u8)) fun j v hv => by
      rw [List.map_map] at hv
      have hj : j < n := by
        rcases Nat.lt_or_ge j n with h | h
        · exact h
        · rw [List.getElem?_eq_none (by simpa using h)] at hv; cases hv
      rw [List.getElem?_map, List.getElem?_range hj] at hv
      simp at hv
      subst hv
      rw [Addr.add_lit]
      exact hc j hj
    simp only [List.length_map, List.length_range] at h
    exact run_bytesToString w _ n c _ h
theorem str_iff (a b : ByteArray) : (a.toList == b.toList) = true ↔ a = b := by
  rw [ByteArray.toList_eq, ByteArray.toList_eq, beq_iff_eq]
  constructor
  · intro h
    cases a with | mk a => cases b with | mk b =>
    exact congrArg ByteArray.mk (Array.ext' h)
  · rintro rfl; rfl
theorem str_no {a b : ByteArray} (h : a ≠ b) : (a.toList == b.toList) = false := by
  cases e : (a.toList == b.toList) with
  | false => rfl
  | true => exact absurd ((str_iff a b).1 e) h
theorem str_yes {a b : ByteArray} (h : a = b) : (a.toList == b.toList) = true := (str_iff a b).2 h
theorem By.take {w : World} {ao : Option Addr} {n m : Nat} {f : Nat → Nat} (h : By w ao n f) (hm : m ≤ n) : By w ao m f := fun hp => by
  obtain ⟨b, off, e, hc⟩ := h (by omega)
  exact ⟨b, off, e, fun i hi => hc i (by omega)⟩
theorem By.drop {w : World} {b off n : Nat} {f : Nat → Nat} (h : By w (some ⟨b, off, none⟩) n f) (m : Nat) : By w (some ⟨b, off + m, none⟩) (n - m) (fun i => f (m + i)) := fun hp => by
  obtain ⟨b', off', e, hc⟩ := h (by omega)
  cases e
  exact ⟨b, off + m, rfl, fun i hi => by rw [Nat.add_assoc]; exact hc (m + i) (by omega)⟩
set_option maxRecDepth 100000 in
set_option maxHeartbeats 4000000 in
theorem copen_c {n c : Nat} {ao : Option Addr} {f : Nat → Nat} {w : World} (hf : ∀ i, f i < 256) (hT : Tab w) (hB : By w ao n f) (h4 : 4 ≤ n) (hn : n ≤ 1099511627776) (hnc : n ≤ c) :
    Calls Tryd.prog 23 #[.slice ao n c] w fun e w' => ∃ v q, e = .returned (.tuple #[v, .bool q]) ∧ (q = true ↔ sumB f (n - 4) = word (fun i => f (n - 4 + i)) 4) ∧ (q = true → OB w' w.heap.size v (n - 4) f) ∧ Made w.heap.size w w' := by
  obtain ⟨b, off, rfl, _⟩ := hB (by omega)
  obtain ⟨m, em⟩ : ∃ m, n - 4 = m := ⟨_, rfl⟩
  have en : n = m + 4 := by omega
  subst en
  have e1 : ((m + 4 : Nat) : Int) - 4 = (m : Int) := by omega
  rw [Nat.add_sub_cancel]
  have HB := hid hB; have HT := hid hT; have HF := hid hf
  have BA : Hid (By w (some ⟨b, off, none⟩) m f) := hB.take (by omega)
  have BD : Hid (By w (some ⟨b, off + m, none⟩) 4 (fun i => f (m + i))) := by
    have := hB.drop m
    rwa [show m + 4 - m = 4 by omega] at this
  obtain ⟨S, eS⟩ : ∃ S, sumB f m = S := ⟨_, rfl⟩
  obtain ⟨U, eU⟩ : ∃ U, word (fun i => f (m + i)) 4 = U := ⟨_, rfl⟩
  have lS : S < 4294967296 := by rw [← eS]; exact sumB_lt hf m
  have lU : U < 4294967296 := by rw [← eU]; exact word_lt (f := fun i => f (m + i)) (fun i => hf _) 4
  have ES := hid eS; have EU := hid eU
  rw [eS, eU]
  have dm : decide ((m : Int) < 0) = false := decide_eq_false (by omega)
  clear hB hT hf eS eU em
  go_enter Tryd.func23, Tryd.ntmps23
  go_upto_region 2 with fail
  refine reg_made (by kernel_rfl) (by kernel_rfl) ?_
  intro T hT fw hfw
  have H1 := hid (fun t => hfw.same (x := t) ((csum_c (c := c) HF.out (HT.out.kept (hfw.1 t)) (BA.out.kept (hfw.1 t)) (by omega)).mono fun e w' h => by rw [ES.out] at h; exact h))
  have H2 := hid (fun t => hfw.same (x := t) ((cstored_c (c := c - m) (f := fun i => f (m + i)) (fun i => HF.out _) (BD.out.kept (hfw.1 t)) (by omega)).mono fun e w' h => by rw [EU.out] at h; exact h))
  repeat (go_big_quiet_step ((first
    | (go_at_call 21; with_reducible exact H1.out _)
    | (go_at_call 32; with_reducible exact H2.out _))))
  refine wpQuiet_nil ?_
  intro w3 h3
  have k3 := hfw.here h3
  have HK := hid k3
  have BB := hid (BA.out.kept k3)
  clear h3 k3 hfw H1 H2
  by_cases hSU : S = U
  · have hq : ((S : Int) != (U : Int)) = false := by simp; omega
    have HS := hid hSU
    clear hSU
    go_wp2_with fail
    refine (ccopied_c BB.out (by omega)).mono ?_
    rintro e wy ⟨v, rfl, hO, hM⟩
    have HO := hid hO
    have HM := hid (HK.out.then_ (hM.low HK.out.1.size))
    clear hO hM
    go_wp2_with fail
    refine bodyPost_ret (v := .tuple #[v, .bool true]) (by simp [results, Tryd.results23, go_sem]) rfl ?_
    exact ⟨_, true, rfl, ⟨fun _ => HS.out, fun _ => rfl⟩, fun _ => HO.out.low HK.out.1.size, HM.out⟩
  · have hq : ((S : Int) != (U : Int)) = true := by simp; omega
    have HS := hid hSU
    clear hSU
    go_wp2_with fail
    refine bodyPost_ret (v := .tuple #[.slice none 0 0, .bool false]) (by simp [results, Tryd.results23, go_sem]) rfl ?_
    exact ⟨_, false, rfl, ⟨(fun h => by cases h), fun h => absurd h HS.out⟩, (fun h => by cases h), HK.out⟩
def abF (i : Nat) : Nat := if i = 0 then 97 else 98
def nineF (i : Nat) : Nat := 49 + i % 9
theorem ab_lt (i : Nat) : abF i < 256 := by unfold abF; split <;> omega
theorem nine_lt (i : Nat) : nineF i < 256 := by unfold nineF; omega
theorem nine_sum : sumB nineF 9 = 3421780262 := by decide +kernel
theorem By.new (w : World) (f : Nat → Nat) (n : Nat) (cs : Array Value) (fz : Nat × Nat) (h : ∀ i, i < n → cs[i]? = some (.int .u8 (f i : Nat))) : By (w.alloc (.cells cs 5 fz)) (some ⟨w.heap.size, 0, none⟩) n f := fun _ => ⟨w.heap.size, 0, rfl, fun i hi => by
  have hg : (w.alloc (.cells cs 5 fz)).heap[w.heap.size]? = some (.cells cs 5 fz) := by
    show (w.heap.push _)[w.heap.size]? = _
    simp
  rw [Nat.zero_add, cell_of_row _ _ i cs _ fz hg]
  exact h i hi⟩
theorem below_new (w : World) (o : Obj) : Below w.heap.size w (w.alloc o) := ⟨rfl, rfl, rfl, by simp, fun k hk => Below.heap_alloc w o k hk⟩
theorem By.bel {w u : World} {ao : Option Addr} {n : Nat} {f : Nat → Nat} (h : By w ao n f) (k : Below w.heap.size w u) : By u ao n f := fun hn => by
  obtain ⟨b, off, e, hc⟩ := h hn
  exact ⟨b, off, e, fun i hi => (k.cell (World.block_lt_of_cell? (a := ⟨b, off + i, none⟩) w (hc i hi))).trans (hc i hi)⟩
theorem Tab.bel {w u : World} (h : Tab w) (k : Below w.heap.size w u) : Tab u := fun i hi => (k.cell (World.block_lt_of_cell? (a := ⟨0, i, none⟩) w (h i hi))).trans (h i hi)
theorem str_ab : strB (sealB abF 2) 2 = ⟨#[97, 98]⟩ := by decide +kernel
end Go.Proofs.YtfkggnlefblniaaDoor.Fx
