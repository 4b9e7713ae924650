/- The state of NamesSort: a row of texts, two maps that count. -/
import Derived.Test.YtmdhlobonnikcaaDoorNmJ
import Derived.Deep.Slices
import Derived.ChangeArms
namespace Go.Proofs.YtmdhlobonnikcaaDoor.Fx
open Go.ChangeShapes Go.WideShapes Go.ChangeAt Go.RowKit Go.Maps Go.Sort Go.Shelf Go.Deep
set_option linter.unusedVariables false

/-! ### what came in -/
/-- numbers that came in -/
def IsIn (w : World) (ao : Option Addr) (n c : Nat) (f : Nat → Int) : Prop := (0 < n → ∃ b off, ao = some ⟨b, off, none⟩ ∧ ∀ i, i < n → w.cell? ⟨b, off + i, none⟩ = some (.int .i64 (f i))) ∧ (∀ i, -9223372036854775808 ≤ f i ∧ f i ≤ 9223372036854775807) ∧ n ≤ c ∧ c ≤ maxLen
/-- texts that came in -/
def SsIn (w : World) (ao : Option Addr) (n c : Nat) (L : List ByteArray) : Prop := Ss w ao L ∧ L.length = n ∧ (∀ s ∈ L, s.size ≤ maxLen) ∧ n ≤ c ∧ c ≤ maxLen
section
variable {H : Type} {enc : TypeId × Value → H} {w : World} {base : Nat} {spare : Nat → Bool} {held : Bool}
theorem open_ints {fuel : Nat} {v : Value} {y : DataW H × List MemPlace} (h : DataW.trod enc Tryd.prog w base spare held fuel 30 [v] = some y) :
    ∃ ao n c f, v = .slice ao n c ∧ IsIn w ao n c f := by
  have ck : Tryd.prog.cellsOf 3 = 1 := by kernel_rfl
  rcases open_slice Tryd.underlying30 h with ⟨hcs, _⟩ | ⟨a, len, cap, m, n, D, Pl, hcs, hb, hlc, hmx, hm, ey, hx⟩
  · simp at hcs
    exact ⟨none, 0, 0, fun _ => 0, hcs, fun h => absurd h (by omega), fun i => ⟨(by show (-9223372036854775808 : Int) ≤ 0; omega), (by show (0 : Int) ≤ 9223372036854775807; omega)⟩, Nat.le_refl _, by unfold maxLen; omega⟩
  · simp at hcs
    rw [ck] at hx
    have hlm : len ≤ m := by rw [hm]; split <;> omega
    obtain ⟨f, hf⟩ := choose_lt' (α := Int) (n := len) (p := fun i x => w.cell? (a.add i) = some (.int .i64 x) ∧ -9223372036854775808 ≤ x ∧ x ≤ 9223372036854775807) (fun i hi => by
      obtain ⟨cs', h1, h2⟩ := hx i (by omega)
      obtain ⟨_, hlen, hcell⟩ := World.cells?_some h1
      match cs', hlen with
      | [v0], _ =>
        obtain ⟨x, ex, _, wx⟩ := DataW.trod_int Tryd.underlying3 h2
        simp at ex
        have hc0 := hcell 0 (by omega)
        rw [Nat.mul_one] at hc0
        have hbd := bounds_i64 wx
        refine ⟨x, ?_, by omega, by omega⟩
        rw [ex, add_zero8] at hc0
        simpa using hc0)
    refine ⟨some a, len, cap, fun i => if i < len then f i else 0, hcs, fun h0 => ?_, fun i => ?_, hlc, hmx⟩
    · obtain ⟨b, off, spot⟩ := a
      have hspot : spot = none := by simpa [Addr.add] using World.cell?_spot (hf 0 h0).1
      subst hspot
      refine ⟨b, off, rfl, fun i hi => ?_⟩
      have := (hf i hi).1
      rw [Addr.add_lit] at this
      show w.cell? ⟨b, off + i, none⟩ = some (.int .i64 (if i < len then f i else 0))
      rw [if_pos hi]
      exact this
    · show -9223372036854775808 ≤ (if i < len then f i else 0) ∧ (if i < len then f i else 0) ≤ 9223372036854775807
      split
      · rename_i hi
        exact (hf i hi).2
      · omega
theorem open_txts {fuel : Nat} {v : Value} {y : DataW H × List MemPlace} (h : DataW.trod enc Tryd.prog w base spare held fuel 31 [v] = some y) :
    ∃ ao n c L, v = .slice ao n c ∧ SsIn w ao n c L := by
  have ck : Tryd.prog.cellsOf 9 = 1 := by kernel_rfl
  rcases open_slice Tryd.underlying31 h with ⟨hcs, _⟩ | ⟨a, len, cap, m, n, D, Pl, hcs, hb, hlc, hmx, hm, ey, hx⟩
  · simp at hcs
    exact ⟨none, 0, 0, [], hcs, fun h => absurd h (by simp), rfl, fun s h => (by cases h), Nat.le_refl _, by unfold maxLen; omega⟩
  · simp at hcs
    rw [ck] at hx
    have hlm : len ≤ m := by rw [hm]; split <;> omega
    obtain ⟨f, hf⟩ := choose_lt' (α := ByteArray) (n := len) (p := fun i x => w.cell? (a.add i) = some (.string x) ∧ x.size ≤ maxLen) (fun i hi => by
      obtain ⟨cs', h1, h2⟩ := hx i (by omega)
      obtain ⟨_, hlen, hcell⟩ := World.cells?_some h1
      match cs', hlen with
      | [v0], _ =>
        obtain ⟨x, ex, _, wx⟩ := DataW.trod_string Tryd.underlying9 h2
        simp at ex
        have hc0 := hcell 0 (by omega)
        rw [Nat.mul_one] at hc0
        refine ⟨x, ?_, wx⟩
        rw [ex, add_zero8] at hc0
        simpa using hc0)
    refine ⟨some a, len, cap, (List.range len).map f, hcs, fun h0 => ?_, by simp, fun s hs => ?_, hlc, hmx⟩
    · obtain ⟨b, off, spot⟩ := a
      have h0 : 0 < len := by simpa using h0
      have hspot : spot = none := by simpa [Addr.add] using World.cell?_spot (hf 0 h0).1
      subst hspot
      refine ⟨b, off, rfl, fun i s hi => ?_⟩
      have hil : i < len := by
        rcases Nat.lt_or_ge i len with h | h
        · exact h
        · rw [List.getElem?_eq_none (by simpa using h)] at hi; cases hi
      rw [List.getElem?_map, List.getElem?_range hil] at hi
      injection hi with hi
      rw [← hi]
      have := (hf i hil).1
      rwa [Addr.add_lit] at this
    · obtain ⟨i, hi, rfl⟩ := List.mem_map.1 hs
      exact (hf i (List.mem_range.1 hi)).2
end
/-! ### the state -/
structure CS (w : World) (base cb : Nat) (m : Nat → Nat) (M : Nat) (v : Value) (I : List ByteArray) (F : Nat → Int → Int) : Prop where
  row : w.ownsRow base 9 1 v I.length (I.map Value.string)
  arr : Has w cb 33 #[.map (some (m 0)), .map (some (m 1))]
  cnt : ∀ k, k < 2 → CW w (m k) M (F k)
  ne : m 0 ≠ m 1
  lb : base ≤ cb ∧ ∀ k, k < 2 → base ≤ m k
section
variable {w u : World} {base cb M : Nat} {m : Nat → Nat} {v : Value} {I : List ByteArray} {F : Nat → Int → Int}
theorem CS.tn {X : Nat → Prop} (h : CS w base cb m M v I F) (k : Tn X w u) (hx : ∀ b, X b → w.heap.size ≤ b) : CS u base cb m M v I F :=
  ⟨own_tn h.row k (fun g hg h2 => by have := own_lt h.row hg; have := hx g h2; omega), h.arr.tn k (fun h2 => by have := h.arr.here; have := hx cb h2; omega),
   fun c hc => (h.cnt c hc).tn k (fun h2 => by have := (h.cnt c hc).lt; have := hx _ h2; omega), h.ne, h.lb⟩
theorem CS.bel (h : CS w base cb m M v I F) (k : Below w.heap.size w u) : CS u base cb m M v I F := h.tn (X := NilB) (Below.tn k) (fun b hb => hb.elim)
theorem CS.congr {G : Nat → Int → Int} {M' : Nat} (h : CS w base cb m M v I F) (e : ∀ c, c < 2 → ∀ a, G c a = F c a) (hM : M ≤ M') : CS w base cb m M' v I G :=
  ⟨h.row, h.arr, fun c hc => (h.cnt c hc).congr (e c hc) hM, h.ne, h.lb⟩
theorem CS.cell (h : CS w base cb m M v I F) {k : Nat} (hk : k < 2) : w.cell? ⟨cb, k, none⟩ = some (.map (some (m k))) := by
  have : k = 0 ∨ k = 1 := by omega
  rw [h.arr.at_ k]
  rcases this with rfl | rfl <;> rfl
theorem CS.other (h : CS w base cb m M v I F) {c k : Nat} (hc : c < 2) (hk : k < 2) (hne : c ≠ k) : m c ≠ m k := by
  have : (c = 0 ∧ k = 1) ∨ (c = 1 ∧ k = 0) := by omega
  rcases this with ⟨rfl, rfl⟩ | ⟨rfl, rfl⟩
  · exact h.ne
  · exact h.ne.symm
theorem infoT : (Tryd.prog.info? 9).map (fun i => (i.zero, i.size, i.bytes)) = some (some (.string ByteArray.empty), 1, 16) := by kernel_rfl
/-- behind an append to the row -/
theorem CS.grown {row : Option Nat} {v' : Value} {J : List ByteArray} (h : CS w base cb m M v I F) (hg : w.grownBy u row) (hr : ∀ g, row = some g → v.ownBlock = some g) (h2 : u.ownsRow base 9 1 v' J.length (J.map Value.string)) : CS u base cb m M v' J F :=
  ⟨h2, h.arr.tn (tn_grown hg) (fun e => own_has h.row h.arr (by decide) (hr _ e.symm) rfl), fun c hc => (h.cnt c hc).tn (tn_grown hg) (fun e => (h.cnt c hc).not_own h.row (hr _ e.symm) rfl), h.ne, h.lb⟩
theorem CS.app {x : ByteArray} (ty : TypeId) (h : CS w base cb m M v I F) (hn : I.length ≤ 1048576) (hbase : base ≤ w.heap.size) :
    ∃ v' w', (Builtin.append_ #[31, 31] ty #[v, .slice (some ⟨w.heap.size, 0, none⟩) 1 1]).run Tryd.prog (w.alloc (.cells #[.string x] 9)) = .ok v' w' ∧ CS w' base cb m M v' (I ++ [x]) F ∧ Below base w w' := by
  obtain ⟨i, hi, hz0, hz1, hz2⟩ := info_parts infoT
  have h1 : CS (w.alloc (.cells #[.string x] 9)) base cb m M v I F := h.tn (X := NilB) (tn_alloc w _ NilB) (fun b hb => hb.elim)
  have hA : (w.alloc (.cells #[.string x] 9)).heap.size = w.heap.size + 1 := by simp
  obtain ⟨v', w', hr, h2, h3, _, h5⟩ := run_append_own_at (P := Tryd.prog) (w.alloc (.cells #[.string x] 9)) base 31 ty 9 i (.string ByteArray.empty) 1 16 Tryd.underlying31 hi hz0 hz1 hz2 rfl (by omega) v I.length (I.map Value.string) h1.row ⟨w.heap.size, 0, none⟩ 1 1 [.string x] rfl (fun j u hj => by
    rw [Addr.add_lit, Nat.zero_add, (has_new w _ _).at_ j]
    simpa using hj) (fun u hu => by rw [List.mem_singleton.1 hu]; rfl) (by unfold maxLen; omega) (by omega) (by omega)
  refine ⟨v', w', hr, h1.grown h3 (fun g hg => hg) ?_, Tn.below_ ((below_new w _).mono hbase) (tn_grown h3) (by omega) fun b hb => own_ge h.row hb.symm⟩
  rw [List.map_append, List.length_append]
  exact h2
theorem CS.pre {x : ByteArray} (ty : TypeId) (h : CS w base cb m M v I F) (hn : I.length ≤ 1048576) (hbase : base ≤ w.heap.size) :
    ∃ v' w', (Builtin.append_ #[31, 31] ty #[.slice (some ⟨w.heap.size, 0, none⟩) 1 1, v]).run Tryd.prog (w.alloc (.cells #[.string x] 9)) = .ok v' w' ∧ CS w' base cb m M v' (x :: I) F ∧ Below base w w' := by
  obtain ⟨i, hi, hz0, hz1, hz2⟩ := info_parts infoT
  have h1 : CS (w.alloc (.cells #[.string x] 9)) base cb m M v I F := h.tn (X := NilB) (tn_alloc w _ NilB) (fun b hb => hb.elim)
  have hA : (w.alloc (.cells #[.string x] 9)).heap.size = w.heap.size + 1 := by simp
  have hO : (w.alloc (.cells #[.string x] 9)).ownsRow w.heap.size 9 1 (.slice (some ⟨w.heap.size, 0, none⟩) 1 1) 1 [.string x] :=
    ⟨rfl, .inr ⟨w.heap.size, 1, _, rfl, Nat.le_refl _, has_new w _ _, Nat.le_refl _, by unfold maxLen; omega, rfl, rfl⟩⟩
  rcases h1.row.2 with ⟨rfl, h0⟩ | ⟨g, cap, cur, rfl, hb, hh, hc1, hc2, hc3, hc4⟩
  · have hI : I = [] := List.eq_nil_of_length_eq_zero h0
    subst hI
    refine ⟨_, _, append_none _ _ _ _ _ i 1 Tryd.underlying31 hi _ _ _ hO none 0, ⟨?_, h1.arr, h1.cnt, h1.ne, h1.lb⟩, (below_new w _).mono hbase⟩
    exact ⟨rfl, .inr ⟨w.heap.size, 1, _, rfl, hbase, has_new w _ _, Nat.le_refl _, by unfold maxLen; omega, rfl, rfl⟩⟩
  · have hnews : ∀ j u, (I.map Value.string)[j]? = some u → (w.alloc (.cells #[.string x] 9)).cell? ((⟨g, 0, none⟩ : Addr).add j) = some u := fun j u hj => by
      have hjl : j < I.length := by
        rcases Nat.lt_or_ge j I.length with h | h
        · exact h
        · rw [List.getElem?_eq_none (by simpa using h)] at hj; cases hj
      rw [Addr.add_lit, Nat.zero_add, Has.at_ (t := 9) (cs := cur) hh j, ← Array.getElem?_toList]
      rw [Nat.mul_one] at hc4
      rw [← hj, ← hc4, List.getElem?_take_of_lt hjl]
    by_cases h0 : I.length = 0
    · have hI : I = [] := List.eq_nil_of_length_eq_zero h0
      subst hI
      refine ⟨_, _, append_none _ _ _ _ _ i 1 Tryd.underlying31 hi _ _ _ hO _ _, ⟨?_, h1.arr, h1.cnt, h1.ne, h1.lb⟩, (below_new w _).mono hbase⟩
      exact ⟨rfl, .inr ⟨w.heap.size, 1, _, rfl, hbase, has_new w _ _, Nat.le_refl _, by unfold maxLen; omega, rfl, rfl⟩⟩
    · obtain ⟨v', w', hr, h2, h3, _, h5⟩ := run_append_own_at (P := Tryd.prog) (w.alloc (.cells #[.string x] 9)) w.heap.size 31 ty 9 i (.string ByteArray.empty) 1 16 Tryd.underlying31 hi hz0 hz1 hz2 rfl (by omega) _ 1 _ hO ⟨g, 0, none⟩ I.length cap (I.map Value.string) (by simp) hnews (fun u hu => by obtain ⟨s, _, rfl⟩ := List.mem_map.1 hu; rfl) (by unfold maxLen; omega) (by omega) (by omega)
      have hgl : g < w.heap.size := own_lt h.row rfl
      have h6 : w'.ownsRow base 9 1 v' (x :: I).length ((x :: I).map Value.string) := by
        have h7 : w'.ownsRow w.heap.size 9 1 v' (x :: I).length ((x :: I).map Value.string) := by
          rw [List.length_cons, Nat.add_comm]; exact h2
        refine ⟨h7.1, h7.2.imp id ?_⟩
        rintro ⟨g', cap', cur', e, hg', r⟩
        exact ⟨g', cap', cur', e, Nat.le_trans hbase hg', r⟩
      refine ⟨v', w', hr, ?_, ?_⟩
      · have k : Tn (fun b => b = w.heap.size) (w.alloc (.cells #[.string x] 9)) w' := (tn_grown h3).up fun b hb => .inl (by injection hb)
        have hlt : ∀ b, b = w.heap.size → b < (w.alloc (.cells #[.string x] 9)).heap.size := fun b hb => by omega
        refine ⟨h6, h1.arr.tn k (fun e => ?_), fun c hc => (h1.cnt c hc).tn k (fun e => ?_), h.ne, h.lb⟩
        · have := h.arr.here; omega
        · have := (h.cnt c hc).lt; omega
      · exact Tn.below_ ((below_new w _).mono hbase) (tn_grown h3) (by omega) fun b hb => by
          have : w.heap.size = b := by
            have h8 : some b = some w.heap.size := hb
            injection h8 with h8
            exact h8.symm
          omega
/-- behind an update of a map -/
theorem CS.upd (h : CS w base cb m M v I F) {k N : Nat} {D : DataW Unit} {a x : Int} {G : Nat → Int → Int} (hk : k < 2) (hN : N ≤ M) (hc : CM D (F k)) (ho : u.ownsMap Tryd.prog 3 pI (m k) (N + 1) (D.put (kk a) (.lit (.int .i64 x)))) (hg : w.grownBy u (some (m k)))
    (hG : ∀ c, c < 2 → ∀ b, G c b = if c = k ∧ b = a then x else F c b) : CS u base cb m (M + 1) v I G := by
  have k1 : Tn (fun b => b = m k) w u := (tn_grown hg).up fun b hb => .inl (by injection hb)
  refine ⟨own_tn h.row k1 (fun g hg e => (h.cnt k hk).not_own h.row hg e), h.arr.tn k1 (fun e => (h.cnt k hk).not_has h.arr e), fun c hc2 => ?_, h.ne, h.lb⟩
  by_cases e : c = k
  · subst e
    refine ⟨N + 1, _, ho, by omega, hc.put a x fun b => ?_⟩
    rw [hG c hc2 b]
    by_cases e2 : b = a
    · rw [if_pos ⟨rfl, e2⟩, if_pos e2]
    · rw [if_neg (fun h => e2 h.2), if_neg e2]
  · exact ((h.cnt c hc2).tn k1 (h.other hc2 hk e)).congr (fun b => by rw [hG c hc2 b, if_neg (fun h => e h.1)]) (by omega)
theorem CS.bel_upd (h : CS w base cb m M v I F) {k : Nat} (hk : k < 2) (hg : w.grownBy u (some (m k))) (hbase : base ≤ w.heap.size) : Below base w u :=
  Tn.below_ (Below.refl _ _) (tn_grown hg) hbase fun b hb => by
    have : b = m k := by injection hb
    rw [this]; exact h.lb.2 k hk
end
/-- two rows of numbers, and a row of both -/
structure RS (w : World) (base gs : Nat) (vv : Nat → Value) (S : Nat → List Int) : Prop where
  rows : ∀ k, k < 2 → OZ w base (vv k) (S k)
  arr : Has w gs 30 #[vv 0, vv 1]
theorem RS.tn {w u : World} {base gs : Nat} {vv : Nat → Value} {S : Nat → List Int} {X : Nat → Prop} (h : RS w base gs vv S) (k : Tn X w u) (hr : ∀ c, c < 2 → ∀ g, (vv c).ownBlock = some g → ¬ X g) (hg : ¬ X gs) : RS u base gs vv S :=
  ⟨fun c hc => own_tn (h.rows c hc) k (hr c hc), h.arr.tn k hg⟩
theorem RS.upd {w u : World} {base gs m M : Nat} {vv : Nat → Value} {S : Nat → List Int} {F : Int → Int} (h : RS w base gs vv S) (hm : CW w m M F) (hg : w.grownBy u (some m)) : RS u base gs vv S :=
  h.tn (X := fun b => b = m) ((tn_grown hg).up fun b hb => .inl (by injection hb)) (fun c hc g e h2 => hm.not_own (h.rows c hc) e h2) (fun e => hm.not_has h.arr e)
theorem RS.cell {w : World} {base gs : Nat} {vv : Nat → Value} {S : Nat → List Int} (h : RS w base gs vv S) {k : Nat} (hk : k < 2) : w.cell? ⟨gs, k, none⟩ = some (vv k) := by
  have : k = 0 ∨ k = 1 := by omega
  rw [h.arr.at_ k]
  rcases this with rfl | rfl <;> rfl
theorem OZ.cells {w : World} {base : Nat} {v : Value} {S : List Int} (h : OZ w base v S) : ∃ ao c, v = .slice ao S.length c ∧ S.length ≤ c ∧ (0 < S.length → ∃ g, ao = some ⟨g, 0, none⟩ ∧ ∀ i x, S[i]? = some x → w.cell? ⟨g, i, none⟩ = some (.int .i64 x)) := by
  rcases h.2 with ⟨rfl, h0⟩ | ⟨g, cap, cur, rfl, hb, hh, h1, h2, h3, h4⟩
  · exact ⟨none, 0, by rw [h0], by omega, fun h => by omega⟩
  · refine ⟨_, _, rfl, h1, fun _ => ⟨g, rfl, fun i x hx => ?_⟩⟩
    have hi : i < S.length := by
      rcases Nat.lt_or_ge i S.length with h | h
      · exact h
      · rw [List.getElem?_eq_none h] at hx; cases hx
    rw [Has.at_ (t := 3) (cs := cur) hh i, ← Array.getElem?_toList]
    rw [Nat.mul_one] at h4
    have : (cur.toList.take S.length)[i]? = (S.map (Value.int .i64))[i]? := by rw [h4]
    rw [List.getElem?_take_of_lt hi, List.getElem?_map, hx] at this
    exact this
theorem CS.texts {w : World} {base cb M : Nat} {m : Nat → Nat} {v : Value} {I : List ByteArray} {F : Nat → Int → Int} (h : CS w base cb m M v I F) : ∃ ao c, v = .slice ao I.length c ∧ Ss w ao I := by
  rcases h.row.2 with ⟨rfl, h0⟩ | ⟨g, cap, cur, rfl, hb, hh, h1, h2, h3, h4⟩
  · exact ⟨none, 0, by rw [h0], fun h => by omega⟩
  · refine ⟨_, _, rfl, fun _ => ⟨g, 0, rfl, fun i x hx => ?_⟩⟩
    have hi : i < I.length := by
      rcases Nat.lt_or_ge i I.length with h | h
      · exact h
      · rw [List.getElem?_eq_none h] at hx; cases hx
    rw [Nat.zero_add, Has.at_ (t := 9) (cs := cur) hh i, ← Array.getElem?_toList]
    rw [Nat.mul_one] at h4
    have : (cur.toList.take I.length)[i]? = (I.map Value.string)[i]? := by rw [h4]
    rw [List.getElem?_take_of_lt hi, List.getElem?_map, hx] at this
    exact this
end Go.Proofs.YtmdhlobonnikcaaDoor.Fx
