/- A disk as it lies in memory (layer 17): maps by what they hold, files, changes. -/
import Derived.Test.YtmdhlobonnikcaaDoorCrB
import Derived.Test.YtmdhlobonnikcaaDoorSwW
import Derived.Test.YtmdhlobonnikcaaDoorDkP
import Derived.Maps.OwnOps
import Derived.Maps.OwnSet
import Derived.Maps.RangeWalk
import Derived.Maps.Ext
import Derived.Maps.AppendAt
import Derived.StringKeys
import Derived.WalkSpells
namespace Go.Proofs.YtmdhlobonnikcaaDoor.Fx
open Go.ChangeShapes Go.WideShapes Go.ChangeAt Go.RowKit Go.Maps
set_option linter.unusedVariables false

/-! ### what turns -/
/-- from w to v memory has grown; of what there was only these blocks have turned -/
structure Tn (X : Nat → Prop) (w v : World) : Prop where
  os : v.os = w.os
  tape : v.tape = w.tape
  output : v.output = w.output
  size : w.heap.size ≤ v.heap.size
  block : ∀ b, b < w.heap.size → ¬ X b → v.heap[b]? = w.heap[b]?
def NilB : Nat → Prop := fun _ => False
theorem Tn.rfl_ (X : Nat → Prop) (w : World) : Tn X w w := ⟨rfl, rfl, rfl, Nat.le_refl _, fun _ _ _ => rfl⟩
theorem Tn.then_ {X Y : Nat → Prop} {a b c : World} (h : Tn X a b) (k : Tn Y b c) (hY : ∀ g, Y g → X g ∨ a.heap.size ≤ g) : Tn X a c :=
  ⟨k.os.trans h.os, k.tape.trans h.tape, k.output.trans h.output, Nat.le_trans h.size k.size, fun i hi hx => (k.block i (Nat.lt_of_lt_of_le hi h.size) (fun hy => by
    rcases hY i hy with h1 | h1
    · exact hx h1
    · omega)).trans (h.block i hi hx)⟩
theorem Tn.then0 {X : Nat → Prop} {a b c : World} (h : Tn X a b) (k : Tn X b c) : Tn X a c := h.then_ k fun _ h => .inl h
theorem Tn.up {X Y : Nat → Prop} {w v : World} (k : Tn X w v) (h : ∀ b, X b → Y b ∨ w.heap.size ≤ b) : Tn Y w v :=
  ⟨k.os, k.tape, k.output, k.size, fun b hb hy => k.block b hb (fun hx => by rcases h b hx with h | h; exact hy h; omega)⟩
theorem Below.tn {w v : World} {X : Nat → Prop} (h : Below w.heap.size w v) : Tn X w v := ⟨h.os, h.tape, h.output, h.size, fun b hb _ => h.block b hb⟩
theorem Tn.below {w v : World} (k : Tn NilB w v) : Below w.heap.size w v := ⟨k.os, k.tape, k.output, k.size, fun b hb => k.block b hb (fun h => h)⟩
theorem Tn.below_ {X : Nat → Prop} {B : Nat} {a w v : World} (h : Below B a w) (k : Tn X w v) (hB : B ≤ w.heap.size) (hX : ∀ b, X b → B ≤ b) : Below B a v :=
  ⟨k.os.trans h.os, k.tape.trans h.tape, k.output.trans h.output, Nat.le_trans h.size k.size, fun b hb => (k.block b (Nat.lt_of_lt_of_le hb hB) (fun hx => by have := hX b hx; omega)).trans (h.block b hb)⟩
theorem tn_put (w : World) (p : Addr) (u : Value) : Tn (fun b => b = p.block) w (w.setCell p u) :=
  ⟨rfl, rfl, rfl, by simp [World.setCell], fun b _ hx => Below.heap_setCell w p u b hx⟩
theorem tn_alloc (w : World) (o : Obj) (X : Nat → Prop) : Tn X w (w.alloc o) := ⟨rfl, rfl, rfl, by simp, fun b hb _ => Below.heap_alloc w o b hb⟩
theorem tn_drew (w : World) (X : Nat → Prop) : Tn X w w.drew := ⟨rfl, rfl, rfl, Nat.le_refl _, fun b hb _ => rfl⟩
theorem tn_grown {w v : World} {r : Option Nat} (h : w.grownBy v r) : Tn (fun b => some b = r) w v := ⟨h.os, h.tape, h.output, h.size, fun b hb hx => h.block b hb hx⟩
theorem Tn.cell {X : Nat → Prop} {w v : World} (h : Tn X w v) {p : Addr} {x : Value} (k : w.cell? p = some x) (hx : ¬ X p.block) : v.cell? p = some x :=
  (World.cell?_of_block (h.block p.block (World.block_lt_of_cell? w _ k) hx)).trans k
theorem Has.tn {X : Nat → Prop} {w v : World} {g : Nat} {t : TypeId} {cs : Array Value} (h : Has w g t cs) (k : Tn X w v) (hx : ¬ X g) : Has v g t cs := (k.block g h.here hx).trans h
theorem By.tn {X : Nat → Prop} {w v : World} {ao : Option Addr} {n : Nat} {f : Nat → Nat} (h : By w ao n f) (k : Tn X w v) (hx : 0 < n → ∀ b off, ao = some ⟨b, off, none⟩ → ¬ X b) : By v ao n f := fun hn => by
  obtain ⟨b, off, e, hc⟩ := h hn
  exact ⟨b, off, e, fun i hi => k.cell (hc i hi) (hx hn b off e)⟩
theorem own_tn {X : Nat → Prop} {w v : World} {base n : Nat} {t : TypeId} {size : Nat} {x : Value} {xs : List Value} (h : w.ownsRow base t size x n xs) (k : Tn X w v) (hx : ∀ g, x.ownBlock = some g → ¬ X g) : v.ownsRow base t size x n xs := by
  obtain ⟨h1, h2⟩ := h
  refine ⟨h1, h2.imp id ?_⟩
  rintro ⟨g, cap, cur, e, hb, hh, r⟩
  have hg : g < w.heap.size := Has.here (t := t) (cs := cur) hh
  exact ⟨g, cap, cur, e, hb, (k.block g hg (hx g (by rw [e]; rfl))).trans hh, r⟩
theorem own_lt {w : World} {base n : Nat} {t : TypeId} {size g : Nat} {x : Value} {xs : List Value} (h : w.ownsRow base t size x n xs) (e : x.ownBlock = some g) : g < w.heap.size := by
  rcases h.2 with ⟨rfl, _⟩ | ⟨g', cap, cur, rfl, _, hh, _⟩
  · cases e
  · cases e; exact Has.here (t := t) (cs := cur) hh
theorem own_ty {w : World} {base n : Nat} {t : TypeId} {size g : Nat} {x : Value} {xs : List Value} (h : w.ownsRow base t size x n xs) (e : x.ownBlock = some g) : ∃ cur, w.heap[g]? = some (.cells cur t (0, 0)) := by
  rcases h.2 with ⟨rfl, _⟩ | ⟨g', cap, cur, rfl, _, hh, _⟩
  · cases e
  · cases e; exact ⟨cur, hh⟩
theorem own_base0 {w : World} {base n : Nat} {t : TypeId} {size : Nat} {x : Value} {xs : List Value} (h : w.ownsRow base t size x n xs) : w.ownsRow 0 t size x n xs := by
  refine ⟨h.1, h.2.imp id ?_⟩
  rintro ⟨g, cap, cur, e, hg, r⟩
  exact ⟨g, cap, cur, e, Nat.zero_le _, r⟩
section
variable {P : Program} {k : TypeId} {R : Value → Option (DataW Unit × List MemPlace)}
theorem map_tn {X : Nat → Prop} {w v : World} {b n : Nat} {D : DataW Unit} (h : w.ownsMap P k R b n D) (kk : Tn X w v) (hx : ¬ X b) : v.ownsMap P k R b n D := by
  have hlt := h.lt
  obtain ⟨es, clock, hb, F, hs, hD⟩ := h
  exact ⟨es, clock, (kk.block b hlt hx).trans hb, F, hs, hD⟩
theorem map_obj {w : World} {b n : Nat} {D : DataW Unit} (h : w.ownsMap P k R b n D) : ∃ es c, w.heap[b]? = some (.map es c) := by
  obtain ⟨es, clock, hb, _⟩ := h; exact ⟨es, clock, hb⟩
theorem map_has {w : World} {b n g : Nat} {D : DataW Unit} {t : TypeId} {cs : Array Value} (h : w.ownsMap P k R b n D) (hh : Has w g t cs) : g ≠ b := by
  rintro rfl
  obtain ⟨es, c, hb⟩ := map_obj h
  unfold Has at hh; rw [hb] at hh; cases hh
theorem map_own {w : World} {b n m g : Nat} {D : DataW Unit} {base : Nat} {t : TypeId} {size : Nat} {x : Value} {xs : List Value} (h : w.ownsMap P k R b n D) (hh : w.ownsRow base t size x m xs) (e : x.ownBlock = some g) : g ≠ b := by
  rintro rfl
  obtain ⟨es, c, hb⟩ := map_obj h
  obtain ⟨cur, hc⟩ := own_ty hh e
  rw [hb] at hc; cases hc
/-- as tight as can be -/
theorem map_tight {w : World} {b n : Nat} {D : DataW Unit} (h : w.ownsMap P k R b n D) : w.ownsMap P k R b (Maps.size D) D := by
  obtain ⟨es, clock, hb, F, hs, rfl⟩ := h
  have e1 : Maps.size (DataW.map ((es.toList.map (Go.WideElems.rg P k R)).foldr DataW.insert [])) = es.size := by simp [Maps.size, length_sorted]
  exact ⟨es, clock, hb, F, by rw [e1]; exact Nat.le_refl _, rfl⟩
end
/-! ### bytes, appended -/
theorem append_by_at {w : World} {base n m c : Nat} {v : Value} {ao : Option Addr} {f g : Nat → Nat} (ty : TypeId) (hown : OB w base v n f) (hx : By w ao m g) (h63 : n + m ≤ 1099511627776) (hbase : base ≤ w.heap.size) :
    ∃ v' w', (Builtin.append_ #[38, 38] ty #[v, .slice ao m c]).run Tryd.prog w = .ok v' w' ∧ OB w' base v' (n + m) (joinB f g n) ∧ w.grownBy w' v.ownBlock ∧ (v'.ownBlock = v.ownBlock ∨ v'.ownBlock = some w.heap.size) := by
  obtain ⟨i, hi, hz0, hz1, hz2⟩ := info_parts info8
  by_cases hm : m = 0
  · subst hm
    refine ⟨v, w, append_none w base _ _ _ i 1 Tryd.underlying38 hi v n _ hown ao c, ?_, ⟨rfl, rfl, rfl, Nat.le_refl _, fun _ _ _ => rfl⟩, .inl rfl⟩
    exact hown.congr fun j hj => by unfold joinB; rw [if_pos hj]
  · obtain ⟨b, off, rfl, hc⟩ := hx (by omega)
    have hnews : ∀ j u, (bl g m)[j]? = some u → w.cell? ((⟨b, off, none⟩ : Addr).add j) = some u := by
      intro j u hu
      have hj : j < m := by
        rcases Nat.lt_or_ge j m with h | h
        · exact h
        · rw [List.getElem?_eq_none (by rw [bl_len]; exact h)] at hu; cases hu
      rw [bl_at g hj] at hu
      cases hu
      rw [Addr.add_lit]
      exact hc j hj
    obtain ⟨v', w', hr, h2, h3, _, h5⟩ := run_append_own_at (P := Tryd.prog) w base 38 ty 5 i (.int .u8 0) 1 1 Tryd.underlying38 hi hz0 hz1 hz2 rfl (by omega) v n (bl f n) hown ⟨b, off, none⟩ m c (bl g m) (by rw [bl_len, Nat.mul_one]) hnews (bl_one g m) (by unfold maxLen; omega) (by omega) hbase
    refine ⟨v', w', hr, ?_, h3, h5⟩
    unfold OB
    rw [← bl_join]
    exact h2
theorem OB.tn {X : Nat → Prop} {w v : World} {base n : Nat} {x : Value} {f : Nat → Nat} (h : OB w base x n f) (k : Tn X w v) (hx : ∀ g, x.ownBlock = some g → ¬ X g) : OB v base x n f := own_tn h k hx
/-! ### keys -/
abbrev sk (s : ByteArray) : Lit := .string s.data.toList
abbrev kk (a : Int) : Lit := .int .i64 a
theorem sk_inj {s t : ByteArray} (h : sk s = sk t) : s = t := by
  injection h with h
  cases s; cases t
  congr 1
  exact Array.ext' h
theorem sk_ne {s t : ByteArray} (h : s ≠ t) : sk s ≠ sk t := fun e => h (sk_inj e)
theorem kk_ne {a b : Int} (h : a ≠ b) : kk a ≠ kk b := fun e => h (by injection e)
theorem lawS : Keyed Tryd.prog 9 := string_keyed Tryd.underlying9
theorem lawI : Keyed Tryd.prog 3 := int_keyed Tryd.underlying3
theorem keyS {s : ByteArray} (h : s.size ≤ maxLen) : keyOf Tryd.prog 9 (.string s) = some (sk s) := Go.WideMaps.keyOf_string_mk Tryd.underlying9 h
theorem keyI {a : Int} (h1 : -9223372036854775808 ≤ a) (h2 : a ≤ 9223372036854775807) : keyOf Tryd.prog 3 (.int .i64 a) = some (kk a) := keyOf_int_mk Tryd.underlying3 (WalkArith.wf_i64 ⟨h1, h2⟩)
theorem zeroI (w : World) : (zeroValue 3).run Tryd.prog w = .ok (.int .i64 0) w := by kernel_rfl
theorem isMap_of {D : DataW Unit} (h : Tidy D) : IsMap D := by
  obtain ⟨es, e, _⟩ := h
  exact ⟨es, e⟩
theorem nodup_le {α : Type} : ∀ {l m : List α}, l.Nodup → (∀ a ∈ l, a ∈ m) → l.length ≤ m.length
  | [], _, _, _ => Nat.zero_le _
  | x :: l, m, hn, hs => by
    obtain ⟨h1, h2⟩ := List.nodup_cons.1 hn
    obtain ⟨s, t, rfl⟩ := List.append_of_mem (hs x (List.mem_cons_self ..))
    have := nodup_le (m := s ++ t) h2 fun a ha => by
      have h3 := hs a (List.mem_cons_of_mem _ ha)
      rcases List.mem_append.1 h3 with h3 | h3
      · exact List.mem_append.2 (.inl h3)
      · rcases List.mem_cons.1 h3 with h3 | h3
        · exact absurd (h3 ▸ ha) h1
        · exact List.mem_append.2 (.inr h3)
    simp only [List.length_append, List.length_cons] at this ⊢
    omega
/-- a map that holds just these: keys and elements by the list -/
structure MH {α : Type} (key : α → Lit) (el : α → DataW Unit) (D : DataW Unit) (l : List α) : Prop where
  tidy : Tidy D
  has : ∀ kl, Maps.has D kl = true ↔ ∃ n ∈ l, kl = key n
  at_ : ∀ n ∈ l, ∀ z, D.atKey (key n) z = el n
section
variable {α : Type} {key : α → Lit} {el : α → DataW Unit} {D : DataW Unit} {l : List α}
theorem mh_nil : MH key el (.map []) [] := ⟨tidy_empty, fun kl => ⟨fun h => (by cases h), fun h => (by obtain ⟨a, h, _⟩ := h; cases h)⟩, fun n h => (by cases h)⟩
theorem MH.yes (h : MH key el D l) {n : α} (hn : n ∈ l) : Maps.has D (key n) = true := (h.has _).2 ⟨n, hn, rfl⟩
theorem MH.no (h : MH key el D l) {kl : Lit} (hn : ∀ n ∈ l, key n ≠ kl) : Maps.has D kl = false := by
  cases e : Maps.has D kl with
  | false => rfl
  | true =>
    obtain ⟨b, hb, e2⟩ := (h.has _).1 e
    exact absurd e2.symm (hn b hb)
theorem MH.at_no (h : MH key el D l) {kl : Lit} (hn : ∀ n ∈ l, key n ≠ kl) (z : DataW Unit) : D.atKey kl z = z := atKey_of_not_has (h.no hn) z
/-- put: what had that key is gone -/
theorem MH.put (h : MH key el D l) (hk : ∀ n, WideAt.IsKeyLit (key n)) (x : α) {l' : List α} (h1 : ∀ n ∈ l', n = x ∨ n ∈ l ∧ key n ≠ key x) (h2 : x ∈ l') (h3 : ∀ n ∈ l, key n ≠ key x → n ∈ l') : MH key el (D.put (key x) (el x)) l' := by
  refine ⟨h.tidy.put (hk x) _, fun kl => ?_, fun n hn z => ?_⟩
  · by_cases e : kl = key x
    · subst e
      exact ⟨fun _ => ⟨x, h2, rfl⟩, fun _ => has_put_same (isMap_of h.tidy) (hk x) _⟩
    · rw [has_put_other e, h.has]
      constructor
      · rintro ⟨b, hb, rfl⟩
        exact ⟨b, h3 b hb e, rfl⟩
      · rintro ⟨b, hb, rfl⟩
        rcases h1 b hb with rfl | hb
        · exact absurd rfl e
        · exact ⟨b, hb.1, rfl⟩
  · rcases h1 n hn with rfl | ⟨hn, hne⟩
    · exact atKey_put_same (isMap_of h.tidy) (hk n) _ _
    · rw [atKey_put_other hne]
      exact h.at_ n hn z
theorem MH.del (h : MH key el D l) {kl : Lit} {l' : List α} (h1 : ∀ n, n ∈ l' ↔ n ∈ l ∧ key n ≠ kl) : MH key el (D.del kl) l' := by
  refine ⟨h.tidy.del _, fun k => ?_, fun n hn z => ?_⟩
  · by_cases e : k = kl
    · subst e
      rw [has_del_same]
      refine ⟨fun h => (by cases h), ?_⟩
      rintro ⟨b, hb, e2⟩
      exact absurd e2.symm ((h1 b).1 hb).2
    · rw [has_del_other e, h.has]
      constructor
      · rintro ⟨b, hb, rfl⟩
        exact ⟨b, (h1 b).2 ⟨hb, e⟩, rfl⟩
      · rintro ⟨b, hb, rfl⟩
        exact ⟨b, ((h1 b).1 hb).1, rfl⟩
  · rw [atKey_del_other ((h1 n).1 hn).2]
    exact h.at_ n ((h1 n).1 hn).1 z
theorem MH.same (h : MH key el D l) {l' : List α} (e : ∀ a, a ∈ l' ↔ a ∈ l) : MH key el D l' :=
  ⟨h.tidy, fun kl => (h.has kl).trans ⟨fun ⟨a, ha, x⟩ => ⟨a, (e a).2 ha, x⟩, fun ⟨a, ha, x⟩ => ⟨a, (e a).1 ha, x⟩⟩, fun n hn => h.at_ n ((e n).1 hn)⟩
theorem MH.el_congr {el' : α → DataW Unit} (h : MH key el D l) (e : ∀ n ∈ l, el' n = el n) : MH key el' D l := ⟨h.tidy, h.has, fun n hn z => (h.at_ n hn z).trans (e n hn).symm⟩
theorem MH.size (h : MH key el D l) (hc : Canon D) (hn : (l.map key).Nodup) : Maps.size D = l.length := by
  have h0 := h.has
  obtain ⟨es, rfl, hr, hk⟩ := hc
  have hn1 : (es.map (·.1)).Nodup := by
    unfold List.Nodup
    rw [List.pairwise_map]
    exact apart_of_rising hr
  have hm : ∀ kl, kl ∈ es.map (·.1) ↔ kl ∈ l.map key := by
    intro kl
    have h1 : es.any (fun p => p.1.sameKey kl) = true ↔ ∃ a ∈ l, kl = key a := h0 kl
    rw [List.any_eq_true] at h1
    constructor
    · intro hx
      obtain ⟨p, hp1, rfl⟩ := List.mem_map.1 hx
      obtain ⟨a, ha, e⟩ := h1.1 ⟨p, hp1, WideAt.sameKey_self (hk p hp1)⟩
      exact List.mem_map.2 ⟨a, ha, e.symm⟩
    · intro hx
      obtain ⟨a, ha, rfl⟩ := List.mem_map.1 hx
      obtain ⟨p, hp1, hs⟩ := h1.2 ⟨a, ha, rfl⟩
      exact List.mem_map.2 ⟨p, hp1, WideAt.sameKey_eq hs⟩
  have e1 := nodup_le hn1 (fun a ha => (hm a).1 ha)
  have e2 := nodup_le hn (fun a ha => (hm a).2 ha)
  simp only [List.length_map] at e1 e2
  show es.length = _
  omega
end
/-! ### names and files in maps -/
abbrev elN (n : Nam) : DataW Unit := .lit (.int .i64 (n.f : Nat))
abbrev keN (n : Nam) : Lit := sk n.s
abbrev NM (D : DataW Unit) (l : List Nam) : Prop := MH keN elN D l
abbrev keF (f : Fil) : Lit := kk (f.id : Nat)
abbrev elF (bl : Nat → Nat) (f : Fil) : DataW Unit := .lit (.int .i64 (bl f.id : Nat))
abbrev FlM (bl : Nat → Nat) (D : DataW Unit) (l : List Fil) : Prop := MH keF (elF bl) D l
/-- how a pointer to a block reads: by its block -/
def ptrE (v : Value) : Option (DataW Unit × List MemPlace) :=
  match v with
  | .pointer (some ⟨b, 0, none⟩) => some (.lit (.int .i64 (b : Nat)), [])
  | .pointer none => some (.nil, [])
  | _ => none
theorem ptrE_some (b : Nat) : ptrE (.pointer (some ⟨b, 0, none⟩)) = some (.lit (.int .i64 (b : Nat)), []) := rfl
theorem ptrE_none : ptrE (.pointer none) = some (.nil, []) := rfl
theorem ptrE_inv {v : Value} {y : DataW Unit × List MemPlace} (h : ptrE v = some y) : (∃ b : Nat, v = .pointer (some ⟨b, 0, none⟩) ∧ y = (.lit (.int .i64 (b : Nat)), [])) ∨ (v = .pointer none ∧ y = (.nil, [])) := by
  unfold ptrE at h
  split at h
  · cases h; exact .inl ⟨_, rfl, rfl⟩
  · cases h; exact .inr ⟨rfl, rfl⟩
  · cases h
theorem sk_key (s : ByteArray) : WideAt.IsKeyLit (sk s) := trivial
theorem kk_key (a : Int) : WideAt.IsKeyLit (kk a) := trivial
end Go.Proofs.YtmdhlobonnikcaaDoor.Fx
