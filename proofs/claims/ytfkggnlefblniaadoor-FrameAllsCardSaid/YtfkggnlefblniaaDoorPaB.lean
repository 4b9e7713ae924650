/- Package pack: the writer's other calls; a reader in memory. -/
import Derived.Test.YtfkggnlefblniaaDoorPaA
namespace Go.Proofs.YtfkggnlefblniaaDoor.Fx
open Go.ChangeShapes Go.WideShapes Go.ChangeAt Go.RowKit
set_option linter.unusedVariables false

set_option maxRecDepth 100000 in
set_option maxHeartbeats 2000000 in
theorem pcopied_c {n c : Nat} {ao : Option Addr} {f : Nat → Nat} {w : World} (hB : By w ao n f) (hn : n ≤ 1099511627776) :
    Calls Tryd.prog 27 #[.slice ao n c] w fun e w' => ∃ ao' c', e = .returned (.slice ao' n c') ∧ n ≤ c' ∧ OB w' w.heap.size (.slice ao' n c') n f ∧ Made w.heap.size w w' := by
  obtain ⟨v', w', hr, hO, hM⟩ := append_copy (c := c) 22 hB hn
  obtain ⟨ao', c', rfl, hc, _⟩ := hO.shape
  have HR := hid hr; have HO := hid hO; have HM := hid hM
  clear hr hO hM hB
  go_enter Tryd.func27, Tryd.ntmps27
  go_wp2_with (at_builtin; refine Lib.wpList_append_run _ rfl _ _ _ _ rfl _ _ rfl rfl _ _ HR.out ?_)
  go_ret
  exact ⟨_, _, rfl, hc, HO.out, HM.out⟩
set_option maxRecDepth 100000 in
set_option maxHeartbeats 2000000 in
theorem pbytes_c {pb n : Nat} {f : Nat → Nat} {w : World} (hW : Wr w pb n f) (hn : n ≤ 1099511627776) :
    Calls Tryd.prog 17 #[.pointer (some ⟨pb, 0, none⟩)] w fun e w' => ∃ ao' c', e = .returned (.slice ao' n c') ∧ n ≤ c' ∧ OB w' w.heap.size (.slice ao' n c') n f ∧ Made w.heap.size w w' := by
  obtain ⟨v, c0, z0, hO⟩ := hW
  obtain ⟨ao, c, rfl, _⟩ := hO.shape
  have HB := hid hO.by_
  clear hO
  go_enter Tryd.func17, Tryd.ntmps17
  go_wp2_with fail
  refine (pcopied_c HB.out hn).mono ?_
  rintro e w' ⟨ao', c', rfl, hc, hO, hM⟩
  have HO := hid hO; have HM := hid hM
  clear hO hM
  go_wp2_with fail
  go_ret
  exact ⟨_, _, rfl, hc, HO.out, HM.out⟩
/-- from w to v memory has grown; only block X has turned, no mark has -/
structure On1 (X : Nat) (w v : World) : Prop where
  os : v.os = w.os
  tape : v.tape = w.tape
  output : v.output = w.output
  size : w.heap.size ≤ v.heap.size
  block : ∀ b, b < w.heap.size → b ≠ X → v.heap[b]? = w.heap[b]?
  marks : ∀ a, v.frozen? a = w.frozen? a
theorem On1.rfl_ (X : Nat) (w : World) : On1 X w w := ⟨rfl, rfl, rfl, Nat.le_refl _, fun _ _ _ => rfl, fun _ => rfl⟩
theorem On1.then_ {X : Nat} {a b c : World} (h : On1 X a b) (k : On1 X b c) : On1 X a c :=
  ⟨k.os.trans h.os, k.tape.trans h.tape, k.output.trans h.output, Nat.le_trans h.size k.size, fun i hi hx => (k.block i (Nat.lt_of_lt_of_le hi h.size) hx).trans (h.block i hi hx), fun x => (k.marks x).trans (h.marks x)⟩
theorem Made.on1 {X : Nat} {w v : World} (h : Made w.heap.size w v) : On1 X w v :=
  ⟨h.1.os, h.1.tape, h.1.output, h.1.size, fun b hb _ => h.1.block b hb, h.2⟩
theorem On1.made_ {X B : Nat} {a w v : World} (h : Made B a w) (k : On1 X w v) (hB : B ≤ w.heap.size) (hX : B ≤ X) : Made B a v := by
  refine ⟨⟨k.os.trans h.1.os, k.tape.trans h.1.tape, k.output.trans h.1.output, Nat.le_trans h.1.size k.size, fun b hb => ?_⟩, fun x => (k.marks x).trans (h.2 x)⟩
  exact (k.block b (Nat.lt_of_lt_of_le hb hB) (by omega)).trans (h.1.block b hb)
theorem On1.put {X : Nat} {a w : World} (h : On1 X a w) (i : Nat) (u : Value) : On1 X a (w.setCell ⟨X, i, none⟩ u) := by
  have e : (w.setCell ⟨X, i, none⟩ u).heap.size = w.heap.size := by simp [World.setCell]
  exact ⟨h.os, h.tape, h.output, Nat.le_trans h.size (Nat.le_of_eq e.symm), fun b hb hx => (Below.heap_setCell w ⟨X, i, none⟩ u b hx).trans (h.block b hb hx), fun x => (World.frozen?_setCell _ _ _ _).trans (h.marks x)⟩
theorem On1.cell {X : Nat} {w v : World} (h : On1 X w v) {p : Addr} {x : Value} (k : w.cell? p = some x) (hx : p.block ≠ X) : v.cell? p = some x :=
  (World.cell?_of_block (h.block p.block (World.block_lt_of_cell? w _ k) hx)).trans k
theorem By.on1 {X : Nat} {w u : World} {ao : Option Addr} {n : Nat} {f : Nat → Nat} (h : By w ao n f) (k : On1 X w u) (hx : ∀ b off, ao = some ⟨b, off, none⟩ → b ≠ X) : By u ao n f := fun hn => by
  obtain ⟨b, off, e, hc⟩ := h hn
  exact ⟨b, off, e, fun i hi => k.cell (hc i hi) (hx b off e)⟩
/-- a reader in block pb with these bytes left -/
structure Re (w : World) (pb : Nat) (ao : Option Addr) (n c : Nat) (f : Nat → Nat) : Prop where
  c0 : w.cell? ⟨pb, 0, none⟩ = some (.slice ao n c)
  c1 : w.cell? ⟨pb, 1, none⟩ = some (.bool false)
  z0 : w.frozen? ⟨pb, 0, none⟩ = false
  z1 : w.frozen? ⟨pb, 1, none⟩ = false
  by_ : By w ao n f
  le : n ≤ c
  top : c ≤ maxLen
  off : ∀ b off, ao = some ⟨b, off, none⟩ → b ≠ pb
/-- a reader in block pb that has failed -/
structure Rx (w : World) (pb : Nat) : Prop where
  c0 : w.cell? ⟨pb, 0, none⟩ = some (.slice none 0 0)
  c1 : w.cell? ⟨pb, 1, none⟩ = some (.bool true)
  z0 : w.frozen? ⟨pb, 0, none⟩ = false
  z1 : w.frozen? ⟨pb, 1, none⟩ = false
theorem Re.kept {w u : World} {pb n c : Nat} {ao : Option Addr} {f : Nat → Nat} (h : Re w pb ao n c f) (k : Made w.heap.size w u) : Re u pb ao n c f :=
  ⟨k.reads h.c0, k.reads h.c1, (k.2 _).trans h.z0, (k.2 _).trans h.z1, h.by_.kept k, h.le, h.top, h.off⟩
theorem Rx.kept {w u : World} {pb : Nat} (h : Rx w pb) (k : Made w.heap.size w u) : Rx u pb :=
  ⟨k.reads h.c0, k.reads h.c1, (k.2 _).trans h.z0, (k.2 _).trans h.z1⟩
theorem Re.here {w : World} {pb n c : Nat} {ao : Option Addr} {f : Nat → Nat} (h : Re w pb ao n c f) : pb < w.heap.size := World.block_lt_of_cell? (a := ⟨pb, 0, none⟩) w h.c0
theorem Rx.here {w : World} {pb : Nat} (h : Rx w pb) : pb < w.heap.size := World.block_lt_of_cell? (a := ⟨pb, 0, none⟩) w h.c0
set_option maxRecDepth 100000 in
set_option maxHeartbeats 2000000 in
theorem pnew_c {n c : Nat} {ao : Option Addr} {f : Nat → Nat} {w : World} (hB : By w ao n f) (hn : n ≤ 1099511627776) :
    Calls Tryd.prog 30 #[.slice ao n c] w fun e w' => ∃ pb ao' c', e = .returned (.pointer (some ⟨pb, 0, none⟩)) ∧ w.heap.size ≤ pb ∧ Re w' pb ao' n c' f ∧ Made w.heap.size w w' := by
  have HB := hid hB
  clear hB
  go_enter Tryd.func30, Tryd.ntmps30
  go_wp2_with fail
  refine (pcopied_c HB.out hn).mono ?_
  rintro e w' ⟨ao', c', rfl, hc, hO, hM⟩
  have HO := hid hO; have HM := hid hM
  clear hO hM
  go_wp2_with fail
  go_ret
  obtain ⟨_, _, e0, _, ht, _⟩ := HO.out.shape
  cases e0
  have hh := has_new w' 73 #[Value.slice ao' n c', Value.bool false]
  refine ⟨w'.heap.size, ao', c', rfl, HM.out.1.size, ⟨(hh.at_ 0).trans rfl, (hh.at_ 1).trans rfl, hh.free 0, hh.free 1, (HO.out.by_).kept ((Made.rfl_ _ _).cells (Nat.le_refl _) _ _), hc, ht, fun b off e => ?_⟩, HM.out.cells HM.out.1.size _ _⟩
  have := (HO.out.lt b (by rw [e]; rfl)).2
  omega
set_option maxRecDepth 100000 in
set_option maxHeartbeats 2000000 in
theorem rbad_c {pb n c : Nat} {ao : Option Addr} {f : Nat → Nat} {w : World} (h : Re w pb ao n c f) :
    Calls Tryd.prog 34 #[.pointer (some ⟨pb, 0, none⟩)] w fun e w' => e = .returned (.bool false) ∧ w = w' := by
  have c1 := h.c1
  clear h
  go_enter Tryd.func34, Tryd.ntmps34
  go_wp2_with fail
  go_ret
  exact ⟨rfl, rfl⟩
set_option maxRecDepth 100000 in
set_option maxHeartbeats 2000000 in
theorem rbadx_c {pb : Nat} {w : World} (h : Rx w pb) :
    Calls Tryd.prog 34 #[.pointer (some ⟨pb, 0, none⟩)] w fun e w' => e = .returned (.bool true) ∧ w = w' := by
  have c1 := h.c1
  clear h
  go_enter Tryd.func34, Tryd.ntmps34
  go_wp2_with fail
  go_ret
  exact ⟨rfl, rfl⟩
set_option maxRecDepth 100000 in
set_option maxHeartbeats 2000000 in
theorem rfail_w {pb : Nat} {w : World} {u0 u1 : Value} (c0 : w.cell? ⟨pb, 0, none⟩ = some u0) (c1 : w.cell? ⟨pb, 1, none⟩ = some u1) (z0 : w.frozen? ⟨pb, 0, none⟩ = false) (z1 : w.frozen? ⟨pb, 1, none⟩ = false) :
    Calls Tryd.prog 35 #[.pointer (some ⟨pb, 0, none⟩)] w fun e w' => e = .returned (.tuple #[]) ∧ Rx w' pb ∧ On1 pb w w' := by
  have hl := World.block_lt_of_cell? (a := ⟨pb, 0, none⟩) w c0
  go_enter Tryd.func35, Tryd.ntmps35
  go_wp2_with fail
  refine cvoid_end rfl rfl ⟨rfl, ⟨?_, ?_, ?_, ?_⟩, ?_⟩
  · go_simp
  · go_simp
  · go_simp
  · go_simp
  · exact ((On1.rfl_ pb w).put _ _).put _ _
theorem rfail_c {pb n c : Nat} {ao : Option Addr} {f : Nat → Nat} {w : World} (h : Re w pb ao n c f) :
    Calls Tryd.prog 35 #[.pointer (some ⟨pb, 0, none⟩)] w fun e w' => e = .returned (.tuple #[]) ∧ Rx w' pb ∧ On1 pb w w' := rfail_w h.c0 h.c1 h.z0 h.z1
theorem rfailx_c {pb : Nat} {w : World} (h : Rx w pb) :
    Calls Tryd.prog 35 #[.pointer (some ⟨pb, 0, none⟩)] w fun e w' => e = .returned (.tuple #[]) ∧ Rx w' pb ∧ On1 pb w w' := rfail_w h.c0 h.c1 h.z0 h.z1
/-- the number that the first bytes are -/
def valI (f : Nat → Nat) : Nat → Int
  | 0 => 0
  | k + 1 => bits .or .i64 (valI f k) (wrap64 ((f k : Int) * 2 ^ (8 * k)))
set_option maxRecDepth 100000 in
set_option maxHeartbeats 2000000 in
theorem rnumx_c {pb m : Nat} {w : World} (h : Rx w pb) (hm : m ≤ 8) :
    Calls Tryd.prog 31 #[.pointer (some ⟨pb, 0, none⟩), .int .i64 (m : Nat)] w fun e w' => e = .returned (.int .i64 0) ∧ Rx w' pb ∧ On1 pb w w' := by
  have hmax : max (m : Int) 0 = (m : Int) := by omega
  have hmin : min (m : Int) 8 = (m : Int) := by omega
  have H := hid (rbadx_c h)
  have H2 := hid (rfailx_c h)
  clear h
  go_enter Tryd.func31, Tryd.ntmps31
  go_wp2_with fail
  refine H.out.mono ?_
  rintro e w1 ⟨rfl, rfl⟩
  go_wp2_with fail
  refine H2.out.mono ?_
  rintro e w1 ⟨rfl, hx, ho⟩
  have HX := hid hx; have HO := hid ho
  clear hx ho
  go_wp2_with fail
  go_ret
  exact ⟨rfl, HX.out, HO.out⟩
set_option maxRecDepth 100000 in
set_option maxHeartbeats 2000000 in
theorem rnums_c {pb m n c : Nat} {ao : Option Addr} {f : Nat → Nat} {w : World} (h : Re w pb ao n c f) (hm : m ≤ 8) (hs : n < m) :
    Calls Tryd.prog 31 #[.pointer (some ⟨pb, 0, none⟩), .int .i64 (m : Nat)] w fun e w' => e = .returned (.int .i64 0) ∧ Rx w' pb ∧ On1 pb w w' := by
  have hmax : max (m : Int) 0 = (m : Int) := by omega
  have hmin : min (m : Int) 8 = (m : Int) := by omega
  have c0 := h.c0
  have hlt : decide ((m : Int) > (n : Int)) = true := decide_eq_true (by omega)
  have H := hid (rbad_c h)
  have H2 := hid (rfail_c h)
  clear h
  go_enter Tryd.func31, Tryd.ntmps31
  go_wp2_with fail
  refine H.out.mono ?_
  rintro e w1 ⟨rfl, rfl⟩
  go_wp2_with fail
  refine H2.out.mono ?_
  rintro e w1 ⟨rfl, hx, ho⟩
  have HX := hid hx; have HO := hid ho
  clear hx ho
  go_wp2_with fail
  go_ret
  exact ⟨rfl, HX.out, HO.out⟩
end Go.Proofs.YtfkggnlefblniaaDoor.Fx
