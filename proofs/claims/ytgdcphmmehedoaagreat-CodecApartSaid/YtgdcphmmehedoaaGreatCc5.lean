/- Aat CoA CoB Mki -/
import Derived.Test.YtgdcphmmehedoaaGreatCc3
import Derived.Test.YtgdcphmmehedoaaGreatCc4
import Derived.Maps.AppendAt
import Derived.Deep.MidRow
set_option maxRecDepth 100000
set_option maxHeartbeats 64000000
/- Rows of one's own and stretches of cells: an append that says which row turned; a block written whole. -/
namespace Go.Proofs.YtgdcphmmehedoaaGreat.Fx
open Go.ChangeShapes Go.WideShapes Go.ChangeAt Go.RowKit
set_option linter.unusedVariables false
theorem LsB.rangeAt {α : Type} {enc : α → List Value} {k : Nat} {w : World} {b off : Nat} {l : List α} (h : LsB enc k w b off l) {i : Nat} {x : α} (hx : l[i]? = some x) : w.rangeAt b (off + i * k) (enc x) := fun j v hv => h i x hx j v hv
theorem there_of {w : World} {g n : Nat} {t : TypeId} {A : Array Value} (h : Has w g t A) (hs : n ≤ A.size) : w.there g 0 n := fun j hj => ⟨by rw [Nat.zero_add, h.at_]; simp; omega, h.free _⟩
theorem Made.setCells {B g : Nat} (hg : B ≤ g) : ∀ (vs : List Value) (o : Nat) {a w : World}, Made B a w → Made B a (w.setCells g o vs)
 | [], _, _, _, h => h
 | x :: vs, o, a, w, h => Made.setCells hg vs (o + 1) (h.put (p := ⟨g, o, none⟩) hg x)
end Go.Proofs.YtgdcphmmehedoaaGreat.Fx
/- Package pack once more: a writer whose row is told, and what a call of it leaves as it was. -/
namespace Go.Proofs.YtgdcphmmehedoaaGreat.Fx
open Go.ChangeShapes Go.WideShapes Go.ChangeAt Go.RowKit
set_option linter.unusedVariables false
theorem OB.but {X : Nat → Prop} {w u : World} {base n : Nat} {v : Value} {f : Nat → Nat} (h : OB w base v n f) (k : But X w u) (hx : ∀ b, some b = v.ownBlock → ¬ X b) : OB u base v n f := by
 refine ⟨h.1, h.2.imp id ?_⟩
 rintro ⟨g, cap, cur, e, hb, hg, r⟩
 have hh : Has w g 5 cur := hg
 exact ⟨g, cap, cur, e, hb, hh.but k (hx g (by rw [e]; rfl)), r⟩
theorem append_by2 {w : World} {base n m c : Nat} {v : Value} {ao : Option Addr} {f g : Nat → Nat} (ty : TypeId) (hown : OB w base v n f) (hx : By w ao m g) (hm : 0 < m) (h63 : n + m ≤ 1099511627776) (hbase : base ≤ w.heap.size) :
  ∃ v' w', (Builtin.append_ #[40, 40] ty #[v, .slice ao m c]).run Tryz.prog w = .ok v' w' ∧ OB w' base v' (n + m) (joinB f g n) ∧ But (fun b => some b = v.ownBlock) w w' ∧ (v'.ownBlock = v.ownBlock ∨ v'.ownBlock = some w.heap.size) := by
 obtain ⟨i, hi, hz0, hz1, hz2⟩ := info_parts info8
 obtain ⟨b, off, rfl, hc⟩ := hx hm
 have hnews : ∀ j u, (bl g m)[j]? = some u → w.cell? ((⟨b, off, none⟩ : Addr).add j) = some u := by
  intro j u hu
  have hj : j < m := by
   rcases Nat.lt_or_ge j m with h | h
   ·exact h
   ·rw [List.getElem?_eq_none (by rw [bl_len]; exact h)] at hu; cases hu
  rw [bl_at g hj] at hu
  cases hu
  rw [Addr.add_lit]
  exact hc j hj
 obtain ⟨v', w', hr, h2, h3, _, h5⟩ := run_append_own_at (P := Tryz.prog) (w := w) base 40 ty 5 i (.int .u8 0) 1 1 Tryz.underlying40 hi hz0 hz1 hz2 rfl (by omega) v n (bl f n) hown ⟨b, off, none⟩ m c (bl g m) (by rw [bl_len, Nat.mul_one]) hnews (bl_one g m) (by unfold maxLen; omega) (by omega) hbase
 have hf := append_frozen (P := Tryz.prog) w base 40 ty 5 i (.int .u8 0) 1 1 Tryz.underlying40 hi hz0 hz1 hz2 (by omega) v n (bl f n) hown ⟨b, off, none⟩ m c (bl g m) (by rw [bl_len, Nat.mul_one]) hnews (bl_one g m) (by unfold maxLen; omega) (by omega) (by omega) hr
 refine ⟨v', w', hr, ?_, ⟨h3.os, h3.tape, h3.output, h3.size, fun b hb hx => h3.block b hb (fun e => hx (by rw [e])), hf⟩, h5⟩
 unfold OB
 rw [← bl_join]
 exact h2
structure Wv (w : World) (pb : Nat) (v : Value) (l : List Nat) : Prop where
 c0 : w.cell? ⟨pb, 0, none⟩ = some v
 z0 : w.frozen? ⟨pb, 0, none⟩ = false
 row : OB w (pb + 1) v l.length (gl l)
def OwnW (pb : Nat) (v : Value) : Nat → Prop := fun b => b = pb ∨ some b = v.ownBlock
structure Wc (pb : Nat) (w u : World) (v v' : Value) : Prop where
 but : But (OwnW pb v) w u
 nx : ∀ b, some b = v'.ownBlock → some b = v.ownBlock ∨ w.heap.size ≤ b
theorem Wc.rfl_ (pb : Nat) (w : World) (v : Value) : Wc pb w w v v := ⟨But.rfl_ _ _, fun _ h => .inl h⟩
theorem Wc.then_ {pb : Nat} {a b c : World} {v v1 v2 : Value} (h : Wc pb a b v v1) (k : Wc pb b c v1 v2) : Wc pb a c v v2 := by
 refine ⟨⟨k.but.os.trans h.but.os, k.but.tape.trans h.but.tape, k.but.output.trans h.but.output, Nat.le_trans h.but.size k.but.size, fun x hx hn => ?_, fun x => (k.but.marks x).trans (h.but.marks x)⟩, fun x hx => ?_⟩
 ·refine (k.but.block x (Nat.lt_of_lt_of_le hx h.but.size) fun hw => ?_).trans (h.but.block x hx hn)
  rcases hw with e | e
  ·exact hn (.inl e)
  ·rcases h.nx x e with e | e
   ·exact hn (.inr e)
   ·omega
 ·rcases k.nx x hx with e | e
  ·exact h.nx x e
  ·exact .inr (Nat.le_trans h.but.size e)
theorem Wc.made {pb : Nat} {a b c : World} {v v1 : Value} (h : Wc pb a b v v1) (k : Made b.heap.size b c) : Wc pb a c v v1 :=
 h.then_ ⟨Made.but k, fun _ e => .inl e⟩
theorem Wv.lt {w : World} {pb : Nat} {v : Value} {l : List Nat} (h : Wv w pb v l) {b : Nat} (e : some b = v.ownBlock) : pb < b ∧ b < w.heap.size := by
 have := h.row.lt b e.symm
 omega
theorem Wv.here {w : World} {pb : Nat} {v : Value} {l : List Nat} (h : Wv w pb v l) : pb < w.heap.size := World.block_lt_of_cell? (a := ⟨pb, 0, none⟩) w h.c0
theorem Wv.low {w : World} {pb : Nat} {v : Value} {l : List Nat} (h : Wv w pb v l) {b : Nat} (e : OwnW pb v b) : pb ≤ b ∧ b < w.heap.size := by
 rcases e with rfl | e
 ·exact ⟨Nat.le_refl _, h.here⟩
 ·have := h.lt e; omega
theorem Wv.but {X : Nat → Prop} {w u : World} {pb : Nat} {v : Value} {l : List Nat} (h : Wv w pb v l) (k : But X w u) (hx : ∀ b, OwnW pb v b → ¬ X b) : Wv u pb v l :=
 ⟨k.cell h.c0 (hx pb (.inl rfl)), (k.marks _).trans h.z0, h.row.but k fun b e => hx b (.inr e)⟩
theorem Wv.kept {w u : World} {pb : Nat} {v : Value} {l : List Nat} (h : Wv w pb v l) (k : Made w.heap.size w u) : Wv u pb v l :=
 h.but (Made.but (X := Nil0) k) (fun _ _ h => h)
theorem Wc.low {w u : World} {pb : Nat} {v v' : Value} {l : List Nat} (h : Wv w pb v l) (k : Wc pb w u v v') : Made pb w u :=
 But.made_ (Made.rfl_ _ _) k.but (Nat.le_of_lt h.here) fun b e => (h.low e).1
theorem Wv.off {w : World} {pb : Nat} {v : Value} {l : List Nat} (h : Wv w pb v l) {g : Nat} (hg : g < pb ∨ w.heap.size ≤ g) : ¬ OwnW pb v g := fun e => by
 have := h.low e; omega
theorem Wc.offs {w u : World} {pb g : Nat} {v v' : Value} (k : Wc pb w u v v') (hg : g < w.heap.size) (h : ¬ OwnW pb v g) : ¬ OwnW pb v' g := fun e => by
 rcases e with e | e
 ·exact h (.inl e)
 ·rcases k.nx g e with e | e
  ·exact h (.inr e)
  ·omega
theorem Wv.new (w : World) (t : TypeId) : Wv (w.alloc (.cells #[Value.slice none 0 0] t)) w.heap.size (.slice none 0 0) [] := by
 have hh := has_new w t #[Value.slice none 0 0]
 exact ⟨by rw [hh.at_ 0]; rfl, hh.free 0, OB.nil _ _ _⟩
theorem nb_next (k : Nat) (X : Int) : nb (k + 1) X = nb k X ++ [byteZ X k] := by
 unfold nb
 rw [List.range_succ, List.map_append]
 rfl
theorem wnum_c {pb m : Nat} {v : Value} {l : List Nat} {X : Int} {w : World} (hW : Wv w pb v l) (hm : m ≤ 8) (hn : l.length ≤ 549755813888) (hX1 : -9223372036854775808 ≤ X) (hX2 : X ≤ 9223372036854775807) :
  Calls Tryz.prog 19 #[.pointer (some ⟨pb, 0, none⟩), .int .i64 (m : Nat), .int .i64 X] w fun e w' => e = .returned (.pointer (some ⟨pb, 0, none⟩)) ∧ ∃ v', Wv w' pb v' (l ++ nb m X) ∧ Wc pb w w' v v' := by
 have HW := hid hW
 have hmin : min (m : Int) 8 = (m : Int) := by omega
 have HR := hid (div256_rg X · hX1 hX2)
 have HL := hid hn
 clear hW hn
 go_enter Tryz.func19, Tryz.ntmps19
 go_wp2_with fail
 go_loopg [2, 11] m (fun g x i wr => ∃ (k : Nat) (v1 : Value), k + g = m ∧ i = .int .i64 (k : Nat) ∧ x = .int .i64 (X / 256 ^ k) ∧ Hid (Wv wr pb v1 (l ++ nb k X)) ∧ Hid (Wc pb w wr v v1))
 case atStart => exact ⟨0, v, by omega, by first | rfl | trivial, by simp, by rw [show nb 0 X = [] from rfl, List.append_nil]; exact HW.out, Wc.rfl_ _ _ _⟩
 case round =>
  obtain ⟨k, v1, hk, rfl, rfl, HW2, HM2⟩ := hrel
  obtain ⟨q, eq⟩ : ∃ q, X / 256 ^ k = q := ⟨_, rfl⟩
  have b1 := (HR.out k).1
  have b2 := (HR.out k).2
  rw [eq] at b1 b2
  have hy := byteZ_is X k eq
  have hz := div256 X k eq
  rw [eq]
  by_cases hlt : k < m
  ·obtain ⟨y, ey⟩ : ∃ y, byteZ X k = y := ⟨_, rfl⟩
   obtain ⟨z, ez⟩ : ∃ z, X / 256 ^ (k + 1) = z := ⟨_, rfl⟩
   have EY := hid ey; have EZ := hid ez
   rw [ey] at hy
   rw [ez] at hz
   clear ey ez eq
   have c0 := HW2.out.c0
   have z0 := HW2.out.z0
   obtain ⟨lg, elg⟩ : ∃ lg, (l ++ nb k X).length = lg := ⟨_, rfl⟩
   have hlg : lg ≤ 549755813888 + 8 := by rw [← elg, List.length_append, nb_len]; have := HL.out; omega
   have HO : Hid (OB wr (pb + 1) v1 lg (gl (l ++ nb k X))) := by rw [← elg]; exact HW2.out.row
   have ELG := hid elg
   clear elg
   obtain ⟨W, eW⟩ : ∃ W, W = wr.alloc (.cells #[Value.int .u8 (y : Nat)] 5) := ⟨_, rfl⟩
   have M3 : Made wr.heap.size wr W := by rw [eW]; exact (Made.rfl_ _ _).cells (Nat.le_refl _) _ _
   have B3 : By W (some ⟨wr.heap.size, 0, none⟩) 1 (fun _ => y) := by rw [eW]; exact By.one wr y
   have hpw : pb < wr.heap.size := HW2.out.here
   have hp3 : pb + 1 ≤ W.heap.size := Nat.le_trans hpw M3.1.size
   obtain ⟨v4, w4, hr, hO4, hg, hnx⟩ := append_by2 (c := 1) 40 (HO.out.kept M3) B3 (by omega) (by omega) hp3
   obtain ⟨ao4, ca4, rfl, _, _, _⟩ := hO4.shape
   have HR2 := hid hr
   have hne : ¬ some pb = v1.ownBlock := fun e => by have := HW2.out.lt e; omega
   have B4 : But (OwnW pb v1) wr w4 := (Made.but M3).then_ (hg.up fun b _ h => .inr h)
   have c4 : w4.cell? ⟨pb, 0, none⟩ = some v1 := hg.cell (M3.reads c0) hne
   have z4 : w4.frozen? ⟨pb, 0, none⟩ = false := (B4.marks _).trans z0
   have lt4 : pb < w4.heap.size := World.block_lt_of_cell? (a := ⟨pb, 0, none⟩) w4 c4
   have O4 : Hid (Wv (w4.setCell ⟨pb, 0, none⟩ (.slice ao4 (lg + 1) ca4)) pb (.slice ao4 (lg + 1) ca4) (l ++ nb (k + 1) X)) := by
    have hrow : OB w4 (pb + 1) (.slice ao4 (lg + 1) ca4) (l ++ nb (k + 1) X).length (gl (l ++ nb (k + 1) X)) := by
     have e1 : (l ++ nb (k + 1) X).length = lg + 1 := by rw [← ELG.out]; simp [nb_len]; omega
     rw [e1]
     refine hO4.congr fun i hi => ?_
     rw [nb_next, ← List.append_assoc]
     unfold joinB
     by_cases h : i < lg
     ·rw [if_pos h, gl_app (l ++ nb k X) _ _ (by rw [ELG.out]; exact h)]
     ·rw [if_neg h, gl_app2 (l ++ nb k X) _ _ (by rw [ELG.out]; omega), ELG.out, show i - lg = 0 by omega, EY.out]
      rfl
    refine ⟨?_, ?_, own_other hrow (p := ⟨pb, 0, none⟩) ?_ _⟩
    ·go_simp
    ·rw [World.frozen?_setCell]; exact z4
    ·intro e
     have := (hO4.lt pb e).1
     omega
   have M5 : Hid (Wc pb w (w4.setCell ⟨pb, 0, none⟩ (.slice ao4 (lg + 1) ca4)) v (.slice ao4 (lg + 1) ca4)) := by
    refine HM2.out.then_ ⟨B4.put (.inl (.inl rfl)) _, fun b hb => ?_⟩
    rcases hnx with e | e
    ·exact .inl (hb.trans e)
    ·rw [e] at hb
     cases hb
     exact .inr M3.1.size
   rw [eW] at HR2
   clear hr hO4 hg hnx M3 B3 hp3 B4 eW lt4
   have HC4 := hid c4
   clear c4
   have C4 := HC4.out
   go_wp2_with (at_builtin; refine Lib.wpList_append_run _ rfl _ _ _ _ rfl _ _ rfl rfl _ _ HR2.out ?_)
   go_roundg (m - k - 1)
   case rel => exact ⟨k + 1, _, by omega, by go_num, by rw [EZ.out], O4.out, M5.out⟩
   case measure => omega
  ·have e : k = m := by omega
   subst e
   clear hy hz eq
   go_wp2_with fail
   go_ret
   exact ⟨rfl, _, HW2.out, HM2.out⟩
theorem wbytes_c {pb : Nat} {v : Value} {l : List Nat} {w : World} (hW : Wv w pb v l) (hn : l.length ≤ 1099511627776) :
  Calls Tryz.prog 21 #[.pointer (some ⟨pb, 0, none⟩)] w fun e w' => ∃ ao' c', e = .returned (.slice ao' l.length c') ∧ l.length ≤ c' ∧ OB w' w.heap.size (.slice ao' l.length c') l.length (gl l) ∧ Made w.heap.size w w' :=
 pbytes_c (pb := pb) ⟨v, hW.c0, hW.z0, hW.row⟩ hn
end Go.Proofs.YtgdcphmmehedoaaGreat.Fx
/- Package pack once more: F and V of any numbers and vectors. -/
namespace Go.Proofs.YtgdcphmmehedoaaGreat.Fx
open Go.ChangeShapes Go.WideShapes Go.ChangeAt Go.RowKit
set_option linter.unusedVariables false
def Ns (w : World) (ao : Option Addr) (n : Nat) (f : Nat → Int) : Prop := 0 < n → ∃ b off, ao = some ⟨b, off, none⟩ ∧ ∀ i, i < n → w.cell? ⟨b, off + i, none⟩ = some (.int .i64 (f i))
theorem Ns.but {X : Nat → Prop} {w u : World} {ao : Option Addr} {n : Nat} {f : Nat → Int} (h : Ns w ao n f) (k : But X w u) (hx : Offs X ao) : Ns u ao n f := fun hn => by
 obtain ⟨b, off, e, hc⟩ := h hn
 exact ⟨b, off, e, fun i hi => k.cell (hc i hi) (hx b off none e)⟩
theorem Ns.lt {w : World} {ao : Option Addr} {n : Nat} {f : Nat → Int} (h : Ns w ao n f) (hn : 0 < n) : ∃ b off, ao = some ⟨b, off, none⟩ ∧ b < w.heap.size := by
 obtain ⟨b, off, e, hc⟩ := h hn
 exact ⟨b, off, e, World.block_lt_of_cell? (a := ⟨b, off + 0, none⟩) w (hc 0 hn)⟩
def fB (f : Nat → Int) (n : Nat) : List Nat := (List.range n).flatMap fun i => nb 8 (f i)
def vB (f : Cs) (n : Nat) : List Nat := (List.range n).flatMap fun i => nb 8 (f i).1 ++ nb 8 (f i).2
theorem fB_next (f : Nat → Int) (n : Nat) : fB f (n + 1) = fB f n ++ nb 8 (f n) := by
 unfold fB; rw [List.range_succ, List.flatMap_append]; simp
theorem vB_next (f : Cs) (n : Nat) : vB f (n + 1) = vB f n ++ (nb 8 (f n).1 ++ nb 8 (f n).2) := by
 unfold vB; rw [List.range_succ, List.flatMap_append]; simp
theorem fB_len (f : Nat → Int) : ∀ n, (fB f n).length = 8 * n
 | 0 => rfl
 | n + 1 => by rw [fB_next, List.length_append, fB_len f n, nb_len]; omega
theorem vB_len (f : Cs) : ∀ n, (vB f n).length = 16 * n
 | 0 => rfl
 | n + 1 => by rw [vB_next, List.length_append, List.length_append, vB_len f n, nb_len, nb_len]; omega
theorem vB_congr {f g : Cs} : ∀ n, (∀ i, i < n → f i = g i) → vB f n = vB g n
 | 0, _ => rfl
 | n + 1, h => by rw [vB_next, vB_next, vB_congr n (fun i hi => h i (by omega)), h n (by omega)]
theorem wf_c {pb n c : Nat} {v : Value} {l : List Nat} {ao : Option Addr} {f : Nat → Int} {w : World} (hW : Wv w pb v l) (hN : Ns w ao n f) (hX : 0 < n → Offs (OwnW pb v) ao) (hf : ∀ i, i < n → I64 (f i)) (hn : l.length + 8 * n ≤ 549755813888) :
  Calls Tryz.prog 34 #[.pointer (some ⟨pb, 0, none⟩), .slice ao n c] w fun e w' => e = .returned (.pointer (some ⟨pb, 0, none⟩)) ∧ ∃ v', Wv w' pb v' (l ++ fB f n) ∧ Wc pb w w' v v' := by
 have HW := hid hW
 have HN := hid hN
 have HX := hid hX
 have HF := hid hf
 have HL := hid hn
 have hnn : n ≤ 549755813888 := by omega
 clear hW hN hX hf hn
 go_enter Tryz.func34, Tryz.ntmps34
 go_wp2_with fail
 go_loopg [9] n (fun g i wr => ∃ (k : Nat) (v1 : Value), k + g = n ∧ i = .int .i64 (k : Nat) ∧ Hid (Wv wr pb v1 (l ++ fB f k)) ∧ Hid (Wc pb w wr v v1))
 case atStart => exact ⟨0, v, by omega, by first | rfl | trivial, by rw [show fB f 0 = [] from rfl, List.append_nil]; exact HW.out, Wc.rfl_ _ _ _⟩
 case round =>
  obtain ⟨k, v1, hk, rfl, HW2, HM2⟩ := hrel
  by_cases hlt : k < n
  ·obtain ⟨b, off, rfl, hc⟩ := HN.out (by omega)
   have hx := HX.out (by omega) b off none rfl
   have c1 := HM2.out.but.cell (hc k hlt) hx
   obtain ⟨x, ex⟩ : ∃ x, f k = x := ⟨_, rfl⟩
   have hi := HF.out k hlt
   rw [ex] at c1 hi
   have hi1 := hi.1
   have hi2 := hi.2
   have EX := hid ex
   have hll : (l ++ fB f k).length ≤ 549755813888 := by rw [List.length_append, fB_len]; have := HL.out; omega
   have HC := hid (wnum_c (m := 8) HW2.out (by omega) hll hi1 hi2)
   clear hc ex hx hi hll
   go_wp2_with fail
   refine HC.out.mono ?_
   rintro e w3 ⟨rfl, v3, hW3, hC3⟩
   have HW3 : Hid (Wv w3 pb v3 (l ++ fB f (k + 1))) := by
    unfold Hid
    rw [fB_next, EX.out, ← List.append_assoc]
    exact hW3
   have HM3 := hid (HM2.out.then_ hC3)
   clear hW3 hC3
   go_wp2_with fail
   go_roundg (n - k - 1)
   case rel => exact ⟨k + 1, v3, by omega, by go_num, HW3.out, HM3.out⟩
   case measure => omega
  ·have e : k = n := by omega
   subst e
   go_wp2_with fail
   go_ret
   exact ⟨rfl, v1, HW2.out, HM2.out⟩
theorem ns2 {w : World} {g : Nat} {t : TypeId} {x y : Int} (h : Has w g t #[.int .i64 x, .int .i64 y]) : Ns w (some ⟨g, 0, none⟩) 2 (fun i => if i = 0 then x else y) := fun _ => by
 refine ⟨g, 0, rfl, fun i hi => ?_⟩
 rw [Nat.zero_add, h.at_ i]
 have : i = 0 ∨ i = 1 := by omega
 rcases this with rfl | rfl <;> rfl
theorem wv_c {pb n c : Nat} {v : Value} {l : List Nat} {ao : Option Addr} {f : Cs} {w : World} (hW : Wv w pb v l) (hN : Sl w ao n f) (hX : 0 < n → Offs (OwnW pb v) ao) (hf : Cin f n) (hn : l.length + 16 * n ≤ 549755813888) :
  Calls Tryz.prog 20 #[.pointer (some ⟨pb, 0, none⟩), .slice ao n c] w fun e w' => e = .returned (.pointer (some ⟨pb, 0, none⟩)) ∧ ∃ v', Wv w' pb v' (l ++ vB f n) ∧ Wc pb w w' v v' := by
 have HW := hid hW
 have HN := hid hN
 have HX := hid hX
 have HF := hid hf
 have HL := hid hn
 have hnn : n ≤ 549755813888 := by omega
 clear hW hN hX hf hn
 go_enter Tryz.func20, Tryz.ntmps20
 go_wp2_with fail
 go_loopg [9] n (fun g i wr => ∃ (k : Nat) (v1 : Value), k + g = n ∧ i = .int .i64 (k : Nat) ∧ Hid (Wv wr pb v1 (l ++ vB f k)) ∧ Hid (Wc pb w wr v v1))
 case atStart => exact ⟨0, v, by omega, by first | rfl | trivial, by rw [show vB f 0 = [] from rfl, List.append_nil]; exact HW.out, Wc.rfl_ _ _ _⟩
 case round =>
  obtain ⟨k, v1, hk, rfl, HW2, HM2⟩ := hrel
  by_cases hlt : k < n
  ·obtain ⟨b, off, rfl, hc⟩ := HN.out (by omega)
   have hx := HX.out (by omega) b off none rfl
   have c1 := HM2.out.but.cell (hc k hlt).1 hx
   have c2 := HM2.out.but.cell (hc k hlt).2 hx
   obtain ⟨x, ex⟩ : ∃ x, (f k).1 = x := ⟨_, rfl⟩
   obtain ⟨y, ey⟩ : ∃ y, (f k).2 = y := ⟨_, rfl⟩
   have hi := HF.out k hlt
   rw [ex] at c1
   rw [ey] at c2
   have HI : Hid (I64 x ∧ I64 y) := by unfold Hid; rw [← ex, ← ey]; exact hi
   have EX := hid ex
   have EY := hid ey
   have hll : Hid ((l ++ vB f k).length + 16 ≤ 549755813888) := by unfold Hid; rw [List.length_append, vB_len]; have := HL.out; omega
   clear hc ex ey hx hi
   obtain ⟨g1, eg1⟩ : ∃ g, wr.heap.size = g := ⟨_, rfl⟩
   obtain ⟨W, eW⟩ : ∃ W, W = wr.alloc (.cells #[Value.int .i64 x, Value.int .i64 y] 28) := ⟨_, rfl⟩
   have kW : Made wr.heap.size wr W := by rw [eW]; exact (Made.rfl_ _ _).cells (Nat.le_refl _) _ _
   have hW0 : Has W g1 28 #[Value.int .i64 x, Value.int .i64 y] := by rw [eW, ← eg1]; exact has_new _ _ _
   have d0 := hW0.at_ 0
   have d1 := hW0.at_ 1
   simp at d0 d1
   have KW := hid kW
   obtain ⟨g2, eg2⟩ : ∃ g, W.heap.size = g := ⟨_, rfl⟩
   have H2 : Hid (Has (W.alloc (.cells #[Value.int .i64 x, Value.int .i64 y] 26)) g2 26 #[Value.int .i64 x, Value.int .i64 y]) := by unfold Hid; rw [← eg2]; exact has_new _ _ _
   have K2 : Hid (Made wr.heap.size wr (W.alloc (.cells #[Value.int .i64 x, Value.int .i64 y] 26))) := KW.out.cells kW.1.size _ _
   have HG : Hid (wr.heap.size ≤ g2) := by unfold Hid; rw [← eg2]; exact kW.1.size
   have HC := hid (wf_c (n := 2) (c := 2) (HW2.out.kept K2.out) (ns2 H2.out) (fun _ b off s e => by
    cases e
    exact HW2.out.off (.inr HG.out)) (f := fun i => if i = 0 then x else y) (fun i hi => by
     show I64 (if i = 0 then x else y)
     split
     ·exact HI.out.1
     ·exact HI.out.2) (by have := hll.out; omega))
   clear hW0 kW
   go_upto_region 4 with fail
   rw [← eW]
   clear eW
   try rw [eg1]
   clear eg1
   go_wp2_with fail
   refine HC.out.mono ?_
   rintro e w3 ⟨rfl, v3, hW3, hC3⟩
   have HW3 : Hid (Wv w3 pb v3 (l ++ vB f (k + 1))) := by
    unfold Hid
    have e2 : fB (fun i => if i = 0 then x else y) 2 = nb 8 x ++ nb 8 y := by
     rw [fB_next, fB_next]; rfl
    rw [vB_next, EX.out, EY.out, ← e2, ← List.append_assoc]
    exact hW3
   have HM3 := hid (HM2.out.then_ ((Wc.rfl_ _ _ _).made K2.out |>.then_ hC3))
   clear hW3 hC3
   go_wp2_with fail
   go_roundg (n - k - 1)
   case rel => exact ⟨k + 1, v3, by omega, by go_num, HW3.out, HM3.out⟩
   case measure => omega
  ·have e : k = n := by omega
   subst e
   go_wp2_with fail
   go_ret
   exact ⟨rfl, v1, HW2.out, HM2.out⟩
end Go.Proofs.YtgdcphmmehedoaaGreat.Fx
/- Regions that draw their order: quiet operations and makings in any order that the text gives, later ones on the answers of earlier ones, and pure ones that come up late; then the others, in one order alone. -/
namespace Go.Proofs.YtgdcphmmehedoaaGreat.Fx.MI
open Go.ChangeShapes Go.WideShapes Go.ChangeAt Go.RowKit
set_option linter.unusedVariables false
structure Ex where
 hi : Nat
 v : Value
 bs : List Bd
instance : OfNat Ex 0 := ⟨⟨0, .bool false, []⟩⟩
def upd (G : Nat → Option (Nat × Ex)) (i : Nat) (t : Nat × Ex) : Nat → Option (Nat × Ex) := fun x => if x = i then some t else G x
theorem upd_comm (G : Nat → Option (Nat × Ex)) {i j : Nat} (h : i ≠ j) (g k : Nat × Ex) : upd (upd G i g) j k = upd (upd G j k) i g := by
 funext x; unfold upd
 by_cases h1 : x = i
 ·have h2 : ¬ x = j := fun e => h (h1.symm.trans e)
  simp [h1, h]
 ·simp [h1]
def Cm (w : World) (al : Nat → World → Nat → Ex → Prop) (G : Nat → Option (Nat × Ex)) (v : World) : Prop :=
 Made w.heap.size w v ∧ (∀ i t, G i = some t → w.heap.size ≤ t.1 ∧ t.1 ≤ t.2.hi ∧ t.2.hi ≤ v.heap.size ∧ al i v t.1 t.2) ∧ (∀ i j t u, G i = some t → G j = some u → i ≠ j → t.2.hi ≤ u.1 ∨ u.2.hi ≤ t.1)
def Lasts (al : Nat → World → Nat → Ex → Prop) : Prop := ∀ i u v g e, al i u g e → e.hi ≤ u.heap.size → Made u.heap.size u v → al i v g e
theorem Cm.step {w : World} {al : Nat → World → Nat → Ex → Prop} {G : Nat → Option (Nat × Ex)} (hst : Lasts al) {u v : World} (h : Cm w al G u) (k : Made u.heap.size u v) : Cm w al G v :=
 ⟨h.1.then_ (k.low h.1.1.size), fun i t e => by
  obtain ⟨h1, h2, h3, h4⟩ := h.2.1 i t e
  exact ⟨h1, h2, Nat.le_trans h3 k.1.size, hst i u v t.1 t.2 h4 h3 k⟩, h.2.2⟩
theorem Cm.next {w : World} {al : Nat → World → Nat → Ex → Prop} {G : Nat → Option (Nat × Ex)} (hst : Lasts al) {u v : World} (h : Cm w al G u) (k : Made u.heap.size u v) {i g : Nat} {e : Ex} (h1 : u.heap.size ≤ g) (h12 : g ≤ e.hi) (h2 : e.hi ≤ v.heap.size) (h3 : al i v g e) : Cm w al (upd G i (g, e)) v := by
 have h' := h.step hst k
 refine ⟨h'.1, fun j t et => ?_, fun j m t x ej em ne => ?_⟩
 ·unfold upd at et
  split at et
  ·rename_i hj
   subst hj
   cases et
   exact ⟨Nat.le_trans h.1.1.size h1, h12, h2, h3⟩
  ·exact h'.2.1 j t et
 ·unfold upd at ej em
  split at ej <;> split at em
  ·rename_i a b; exact absurd (a.trans b.symm) ne
  ·cases ej
   have := (h.2.1 m _ em).2.2.1
   exact .inr (Nat.le_trans this h1)
  ·cases em
   have := (h.2.1 j _ ej).2.2.1
   exact .inl (Nat.le_trans this h1)
  ·exact h.2.2 j m t x ej em ne
def MkUpon (P : Program) (w : World) (al : Nat → World → Nat → Ex → Prop) (val : Nat → Nat → Ex → Value) (i : Nat) (G : Nat → Option (Nat × Ex)) : Result Next → Prop
 | .ok (.value x) u' => ∃ g e, x = val i g e ∧ Cm w al (upd G i (g, e)) u'
 | .ok (.enter f args) u' => Calls P f args u' fun z u'' => ∃ g e, z = .returned (val i g e) ∧ Cm w al (upd G i (g, e)) u''
 | _ => False
def agree (ds : List Nat) (G G' : Nat → Option (Nat × Ex)) : Prop := ∀ m, m ∈ ds → G' m = G m
theorem agree.rfl_ (ds : List Nat) (G : Nat → Option (Nat × Ex)) : agree ds G G := fun _ _ => rfl
theorem agree_up {ds : List Nat} {G G' : Nat → Option (Nat × Ex)} {i : Nat} {g : Nat × Ex} (h : agree ds G G') (hi : i ∉ ds) : agree ds (upd G i g) G' := fun m hm => by
 have hne : m ≠ i := fun e => hi (e ▸ hm)
 rw [h m hm]; unfold upd; rw [if_neg hne]
theorem agree_un {ds : List Nat} {G G' : Nat → Option (Nat × Ex)} {i : Nat} {g : Nat × Ex} (h : agree ds (upd G i g) G') (hi : i ∉ ds) : agree ds G G' := fun m hm => by
 have hne : m ≠ i := fun e => hi (e ▸ hm)
 rw [h m hm]; unfold upd; rw [if_neg hne]
section
variable {P : Program} {ops : Array Oper} {md : Region.Mode} {w : World} {al : Nat → World → Nat → Ex → Prop} {val : Nat → Nat → Ex → Value} {k : Nat} {qs ms ps : List Nat} {dp : Nat → List Nat}
def YD (P : Program) (ops : Array Oper) (w : World) (al : Nat → World → Nat → Ex → Prop) (ds : List Nat) (G : Nat → Option (Nat × Ex)) (o : Oper) (v : Value) (a : Act) : Prop :=
 ∀ G', agree ds G G' → (∃ u, Cm w al G' u) → YieldsIn P ops (Cm w al G') o v a
theorem YD.put {ds : List Nat} {G : Nat → Option (Nat × Ex)} {oi oj : Oper} {v u : Value} {a : Act} (hy : YD P ops w al ds G oi v a) (hsi : ∀ cs b, oi.op ≠ .select cs b) (h : ∀ d, oj.dst = some d → d ∉ oi.looksAt ops) : YD P ops w al ds G oi v (a.put oj.dst u) :=
 fun G' ha hG => (hy G' ha hG).of_same (execOp_put oi hsi a oj.dst u h) (wanted_put oi a oj.dst u h)
theorem YD.unput {ds : List Nat} {G : Nat → Option (Nat × Ex)} {oi oj : Oper} {v u : Value} {a : Act} (hy : YD P ops w al ds G oi v (a.put oj.dst u)) (hsi : ∀ cs b, oi.op ≠ .select cs b) (h : ∀ d, oj.dst = some d → d ∉ oi.looksAt ops) : YD P ops w al ds G oi v a :=
 fun G' ha hG => (hy G' ha hG).of_same (execOp_put oi hsi a oj.dst u h).symm (wanted_put oi a oj.dst u h).symm
theorem YD.more {ds : List Nat} {G : Nat → Option (Nat × Ex)} {i : Nat} {g : Nat × Ex} {o : Oper} {v : Value} {a : Act} (hy : YD P ops w al ds G o v a) (hi : i ∉ ds) : YD P ops w al ds (upd G i g) o v a := fun G' ha hG => hy G' (agree_un ha hi) hG
theorem YD.less {ds : List Nat} {G : Nat → Option (Nat × Ex)} {i : Nat} {g : Nat × Ex} {o : Oper} {v : Value} {a : Act} (hy : YD P ops w al ds (upd G i g) o v a) (hi : i ∉ ds) : YD P ops w al ds G o v a := fun G' ha hG => hy G' (agree_up ha hi) hG
structure MkD (P : Program) (w : World) (al : Nat → World → Nat → Ex → Prop) (val : Nat → Nat → Ex → Value) (ds : List Nat) (G : Nat → Option (Nat × Ex)) (i : Nat) (o : Oper) (d : Tmp) (a : Act) : Prop where
 dst : o.dst = some d
 guard : o.guard = none
 runs : ∀ G' u, agree ds G G' → Cm w al G' u → MkUpon P w al val i G' ((execOp a.eval o).run P u)
theorem MkD.put {ds : List Nat} {G : Nat → Option (Nat × Ex)} {i : Nat} {oi oj : Oper} {d : Tmp} {u : Value} {a : Act} (h : MkD P w al val ds G i oi d a) (hsi : ∀ cs b, oi.op ≠ .select cs b) (hd : ∀ x, oj.dst = some x → x ∉ oi.looksAt ops) : MkD P w al val ds G i oi d (a.put oj.dst u) :=
 ⟨h.dst, h.guard, fun G' x ha hx => by rw [execOp_put (ops := ops) oi hsi a oj.dst u hd]; exact h.runs G' x ha hx⟩
theorem MkD.unput {ds : List Nat} {G : Nat → Option (Nat × Ex)} {i : Nat} {oi oj : Oper} {d : Tmp} {u : Value} {a : Act} (h : MkD P w al val ds G i oi d (a.put oj.dst u)) (hsi : ∀ cs b, oi.op ≠ .select cs b) (hd : ∀ x, oj.dst = some x → x ∉ oi.looksAt ops) : MkD P w al val ds G i oi d a :=
 ⟨h.dst, h.guard, fun G' x ha hx => by rw [← execOp_put (ops := ops) oi hsi a oj.dst u hd]; exact h.runs G' x ha hx⟩
theorem MkD.more {ds : List Nat} {G : Nat → Option (Nat × Ex)} {i j : Nat} {g : Nat × Ex} {o : Oper} {d : Tmp} {a : Act} (h : MkD P w al val ds G j o d a) (hi : i ∉ ds) : MkD P w al val ds (upd G i g) j o d a := ⟨h.dst, h.guard, fun G' x ha hx => h.runs G' x (agree_un ha hi) hx⟩
theorem MkD.less {ds : List Nat} {G : Nat → Option (Nat × Ex)} {i j : Nat} {g : Nat × Ex} {o : Oper} {d : Tmp} {a : Act} (h : MkD P w al val ds (upd G i g) j o d a) (hi : i ∉ ds) : MkD P w al val ds G j o d a := ⟨h.dst, h.guard, fun G' x ha hx => h.runs G' x (agree_up ha hi) hx⟩
def depB (md : Region.Mode) (ops : Array Oper) (j i : Nat) : Bool := Region.waitsFor md ops j i || (down md ops 6 ((List.range ops.size).filter fun x => Region.waitsFor md ops j x)).contains i
theorem dep_done {i j : Nat} {got : Array Bool} (inv : HeadInv md ops k got) (hj : j ∈ Region.ready md ops got) (hd : depB md ops j i = true) : got.getD i false = true := by
 obtain ⟨_, ot, hot, hall⟩ := mem_ready.1 hj
 have direct : ∀ x, Region.waitsFor md ops j x = true → got.getD x false = true := fun x h => by
  obtain ⟨o', ho', e, he, hb, hon⟩ := Region.waitsFor_spec h
  have e1 : o' = ot := Option.some.inj (ho'.symm.trans hot)
  subst e1
  rw [← hon]
  exact hall e he hb
 unfold depB at hd
 simp only [Bool.or_eq_true, List.contains_iff_mem] at hd
 rcases hd with h | h
 ·exact direct i h
 ·exact down_got inv 6 _ (fun x hx => direct x (List.mem_filter.1 hx).2) i h
def GM (P : Program) (md : Region.Mode) (ops : Array Oper) (w : World) (al : Nat → World → Nat → Ex → Prop) (val : Nat → Nat → Ex → Value) (k : Nat) (qs ms : List Nat) (dp : Nat → List Nat) (g : Nat) (Q : Exit → Act → World → Prop) (L : (Nat → Option (Nat × Ex)) → Array Bool → Act → Prop) : Nat → (Nat → Option (Nat × Ex)) → Array Bool → Act → Prop
 | 0, G, got, a => L G got a
 | f + 1, G, got, a => Region.ready md ops got ≠ [] ∧ ∀ i ∈ Region.ready md ops got,
   (i ∈ qs ∧ i < k ∧ ∃ o v, ops[i]? = some o ∧ YD P ops w al (dp i) G o v a ∧ GM P md ops w al val k qs ms dp g Q L f G (got.setIfInBounds i true) (a.put o.dst v)) ∨
   (i ∈ ms ∧ i < k ∧ ∃ o d, ops[i]? = some o ∧ MkD P w al val (dp i) G i o d a ∧ ∀ b e, GM P md ops w al val k qs ms dp g Q L f (upd G i (b, e)) (got.setIfInBounds i true) (a.put (some d) (val i b e))) ∨
   (i = k ∧ ∀ u, Cm w al G u → wpOp P ops Q i (wpAny P md ops Q (f + g) (got.setIfInBounds i true)) a u)
theorem GM_any {g : Nat} {L : (Nat → Option (Nat × Ex)) → Array Bool → Act → Prop} {Q : Exit → Act → World → Prop}
  (hL : ∀ G got a u, Cm w al G u → L G got a → wpAny P md ops Q g got a u) :
  ∀ (f : Nat) (G : Nat → Option (Nat × Ex)) (got : Array Bool) (a : Act) (u : World), Cm w al G u → GM P md ops w al val k qs ms dp g Q L f G got a → wpAny P md ops Q (f + g) got a u
 | 0, G, got, a, u, hu, h => by rw [Nat.zero_add]; exact hL _ _ _ _ hu h
 | f + 1, G, got, a, u, hu, h => by
  rw [show f + 1 + g = (f + g) + 1 by omega]
  refine ⟨fun h0 => absurd h0 h.1, fun i hi => ?_⟩
  rcases h.2 i hi with ⟨_, _, o, v, ho, hy, hf⟩ | ⟨_, _, o, d, ho, ha, hf⟩ | ⟨_, hf⟩
  ·refine wpOp_of_qOp (C := Cm w al G) (K := fun a' => a' = a.put o.dst v) hu (fun a' u' hu' e => ?_) ((hy G (agree.rfl_ _ _) ⟨u, hu⟩).qOp ho rfl)
   rw [e]
   exact GM_any hL f _ _ _ _ hu' hf
  ·unfold wpOp
   simp only [ho]
   have hw : Region.wanted o (yielded ops a.tmps) = true := by unfold Region.wanted; rw [ha.guard]
   rw [if_pos hw]
   left
   have hr := ha.runs G u (agree.rfl_ _ _) hu
   unfold Oper.wp
   generalize (execOp a.eval o).run P u = r at hr
   cases r with
   | halt x w' => exact hr.elim
   | ok x w' =>
    cases x with
    | value x =>
     obtain ⟨b, e, hx, hc⟩ := hr
     rw [Oper.upon_value, ha.dst, hx]
     exact GM_any hL f _ _ _ _ hc (hf b e)
    | enter fn args =>
     rw [Oper.upon_enter]
     refine Calls.mono hr fun z u'' ⟨b, e, hz, hc⟩ => ?_
     subst hz
     simp only []
     rw [ha.dst]
     exact GM_any hL f _ _ _ _ hc (hf b e)
    | _ => exact hr.elim
  ·exact hf u hu
theorem GM_first {i g : Nat} {Q : Exit → Act → World → Prop} {oi : Oper} {v : Value} {L : (Nat → Option (Nat × Ex)) → Array Bool → Act → Prop} (hL : ∀ G got a u, Cm w al G u → L G got a → wpAny P md ops Q g got a u) (hQ : NoFrame Q) (hpu : ∀ p ∈ ps, ∀ o, ops[p]? = some o → Pure P o) (hi : ops[i]? = some oi)
  (hsel : ∀ (j : Nat) (o : Oper) cs b, ops[j]? = some o → o.op ≠ .select cs b) (hs : FS.waitB md ops k ps = true) (hc : Region.chainB md ops k = true) (hn : k < ops.size) (hiq : i ∈ qs) (hin : i < k) (hdp : ∀ j m, j < k → m ∈ dp j → depB md ops j m = true)
  (hdone : ∀ G got a, L G got a → ∀ j ∈ Region.ready md ops got, k ≤ j) :
  ∀ (f : Nat) (G : Nat → Option (Nat × Ex)) (got : Array Bool) (a : Act), HeadInv md ops k got →
   (∀ j oj, ops[j]? = some oj → j ≠ i → got.getD j true = false → (∀ e ∈ oj.after, Region.binds md e = true → e.on ≠ i) → oi.apart ops oj = true) →
   i ∈ Region.ready md ops got → YD P ops w al (dp i) G oi v a →
   GM P md ops w al val k qs ms dp g Q L f G (got.setIfInBounds i true) (a.put oi.dst v) → GM P md ops w al val k qs ms dp g Q L (f + 1) G got a
 | f, G, got, a, inv, hfree, hr, hy, H => by
  have hun := (mem_ready.1 hr).1
  refine ⟨fun h => (by rw [h] at hr; cases hr), fun j hj => ?_⟩
  have hle := ready_le hc inv hj
  by_cases hji : j = i
  ·subst hji; exact .inl ⟨hiq, hin, oi, v, hi, hy, H⟩
  ·have hrj := ready_mono hj hji
   obtain ⟨hjun, oj, hoj, hall⟩ := mem_ready.1 hj
   have hnot : ∀ e ∈ oj.after, Region.binds md e = true → e.on ≠ i := fun e he hb heq => by
    have h1 := hall e he hb
    rw [heq, getD_both hun] at h1
    cases h1
   have hap := hfree j oj hoj hji hjun hnot
   obtain ⟨p1, p2, p3⟩ := Oper.apart_spec hap
   have hfree' : ∀ m ok, ops[m]? = some ok → m ≠ i → (got.setIfInBounds j true).getD m true = false → (∀ e ∈ ok.after, Region.binds md e = true → e.on ≠ i) → oi.apart ops ok = true := fun m ok hk hki hun' hno => by
    refine hfree m ok hk hki ?_ hno
    by_cases hjk : j = m
    ·subst hjk; exact hjun
    ·rw [getD_set_ne true hjk] at hun'; exact hun'
   by_cases hjl : j = k
   ·have hip : i ∈ ps := FS.ready_last hs inv (by rw [← hjl]; exact hj) hin hun
    refine .inr (.inr ⟨hjl, fun u hu => ?_⟩)
    have hy' : Yields P ops oi v a := by
     rcases hy G (agree.rfl_ _ _) ⟨u, hu⟩ with ⟨hw, hv⟩ | hw
     ·exact .inl ⟨hw, hpu i hip oi hi a _ u v (hv u hu)⟩
     ·exact .inr hw
    have hQ' := hQ
    have fin : ∀ N, wpOp P ops Q j (wpAny P md ops Q N ((got.setIfInBounds i true).setIfInBounds j true)) (a.put oi.dst v) u → wpOp P ops Q j (wpAny P md ops Q (N + 1) (got.setIfInBounds j true)) a u := fun N h => by
     refine wpOp_mono (fun a' w' h3 => wpAny_first hi hsel (fun c a w h => hQ' c _ _ w h) N (got.setIfInBounds j true) a' w' hfree' (ready_mono hr (Ne.symm hji)) h3.1 ?_) (wpOp_put hoj hap (fun cs b => hsel i oi cs b hi) (fun cs b => hsel j oj cs b hoj) (fun c a w h => hQ' c _ _ w h) hy' h)
     rw [Array.setIfInBounds_comm _ _ hji]
     exact h3.2
    match f, H with
    | 0, H =>
     have X := hL _ _ _ u hu H
     match g, X with
     | 0, X => rw [X.1] at hrj; cases hrj
     | g + 1, X => rw [Nat.zero_add]; exact fin g (X.2 j hrj)
    | f + 1, H =>
     rcases H.2 j hrj with ⟨_, h, _⟩ | ⟨_, h, _⟩ | ⟨_, h⟩
     ·omega
     ·omega
     ·rw [show f + 1 + g = f + g + 1 by omega]; exact fin _ (h u hu)
   have hjn : j < k := by omega
   have hji' : j ∉ dp i := fun hm => by
    have := dep_done inv hr (hdp i j hin hm)
    rw [getD_both hjun] at this; cases this
   match f, H with
   | 0, H => have := hdone _ _ _ H j hrj; omega
   | f + 1, H =>
    rcases H.2 j hrj with ⟨hjq, hjn', o, u, ho, hyj, hf⟩ | ⟨hjm, hjn', o, d, ho, ha, hf⟩ | ⟨h1, _⟩
    ·have e : o = oj := Option.some.inj (ho.symm.trans hoj)
     subst e
     refine .inl ⟨hjq, hjn', o, u, ho, hyj.unput (fun cs b => hsel j o cs b ho) p1, ?_⟩
     refine GM_first hL hQ hpu hi hsel hs hc hn hiq hin hdp hdone f G _ _ (inv.set hj hjn) hfree' (ready_mono hr (Ne.symm hji)) (hy.put (fun cs b => hsel i oi cs b hi) p3) ?_
     rw [Array.setIfInBounds_comm _ _ hji, ← Act.put_comm a v u p2]
     exact hf
    ·have e : o = oj := Option.some.inj (ho.symm.trans hoj)
     subst e
     refine .inr (.inl ⟨hjm, hjn', o, d, ho, ha.unput (fun cs b => hsel j o cs b ho) p1, fun b x => ?_⟩)
     have hyi : YD P ops w al (dp i) (upd G j (b, x)) oi v (a.put o.dst (val j b x)) := (hy.put (fun cs b => hsel i oi cs b hi) p3).more hji'
     have hg := hf b x
     rw [← ha.dst] at hg ⊢
     refine GM_first hL hQ hpu hi hsel hs hc hn hiq hin hdp hdone f _ _ _ (inv.set hj hjn) hfree' (ready_mono hr (Ne.symm hji)) hyi ?_
     rw [Array.setIfInBounds_comm _ _ hji, ← Act.put_comm a v _ p2]
     exact hg
    ·omega
theorem GM_firstM {i g : Nat} {Q : Exit → Act → World → Prop} {oi : Oper} {di : Tmp} {L : (Nat → Option (Nat × Ex)) → Array Bool → Act → Prop} (hi : ops[i]? = some oi) (hsel : ∀ (j : Nat) (o : Oper) cs b, ops[j]? = some o → o.op ≠ .select cs b)
  (hs : FS.waitB md ops k ps = true) (hc : Region.chainB md ops k = true) (hn : k < ops.size) (him : i ∈ ms) (hin : i < k) (hips : i ∉ ps) (hdp : ∀ j m, j < k → m ∈ dp j → depB md ops j m = true)
  (hdone : ∀ G got a, L G got a → ∀ j ∈ Region.ready md ops got, k ≤ j) :
  ∀ (f : Nat) (G : Nat → Option (Nat × Ex)) (got : Array Bool) (a : Act), HeadInv md ops k got → (∀ j, j ∈ qs → got.getD j true = true ∨ depB md ops j i = true) →
   (∀ j oj, ops[j]? = some oj → j ≠ i → got.getD j true = false → (∀ e ∈ oj.after, Region.binds md e = true → e.on ≠ i) → oi.apart ops oj = true) →
   i ∈ Region.ready md ops got → MkD P w al val (dp i) G i oi di a →
   (∀ b e, GM P md ops w al val k qs ms dp g Q L f (upd G i (b, e)) (got.setIfInBounds i true) (a.put (some di) (val i b e))) → GM P md ops w al val k qs ms dp g Q L (f + 1) G got a
 | f, G, got, a, inv, hall0, hfree, hr, ha, H => by
  have hun := (mem_ready.1 hr).1
  refine ⟨fun h => (by rw [h] at hr; cases hr), fun j hj => ?_⟩
  have hjn : j < k := by
   refine Nat.lt_of_le_of_ne (ready_le hc inv hj) fun e => ?_
   exact hips (FS.ready_last (i := i) hs inv (by rw [← e]; exact hj) hin hun)
  obtain ⟨hjun, oj, hoj, hall⟩ := mem_ready.1 hj
  have noq : j ∉ qs := fun hq => by
   rcases hall0 j hq with h | h
   ·rw [h] at hjun; cases hjun
   ·have := dep_done inv hj h
    rw [getD_both hun] at this; cases this
  by_cases hji : j = i
  ·subst hji; exact .inr (.inl ⟨him, hin, oi, di, hi, ha, H⟩)
  ·have hrj := ready_mono hj hji
   have hij' : i ∉ dp j := fun hm => by
    have := dep_done inv hj (hdp j i hjn hm)
    rw [getD_both hun] at this; cases this
   have hji' : j ∉ dp i := fun hm => by
    have := dep_done inv hr (hdp i j hin hm)
    rw [getD_both hjun] at this; cases this
   match f, H with
   | 0, H => have := hdone _ _ _ (H 0 0) j hrj; omega
   | f + 1, H =>
    have hnot : ∀ e ∈ oj.after, Region.binds md e = true → e.on ≠ i := fun e he hb heq => by
     have h1 := hall e he hb
     rw [heq, getD_both hun] at h1
     cases h1
    obtain ⟨p1, p2, p3⟩ := Oper.apart_spec (hfree j oj hoj hji hjun hnot)
    have hfree' : ∀ m ok, ops[m]? = some ok → m ≠ i → (got.setIfInBounds j true).getD m true = false → (∀ e ∈ ok.after, Region.binds md e = true → e.on ≠ i) → oi.apart ops ok = true := fun m ok hk hki hun' hno => by
     refine hfree m ok hk hki ?_ hno
     by_cases hjk : j = m
     ·subst hjk; exact hjun
     ·rw [getD_set_ne true hjk] at hun'; exact hun'
    have key : ∀ b e, ∃ d, j ∈ ms ∧ MkD P w al val (dp j) (upd G i (b, e)) j oj d (a.put (some di) (val i b e)) ∧ ∀ b' e', GM P md ops w al val k qs ms dp g Q L f (upd (upd G i (b, e)) j (b', e')) ((got.setIfInBounds i true).setIfInBounds j true) ((a.put (some di) (val i b e)).put (some d) (val j b' e')) := fun b e => by
     rcases (H b e).2 j hrj with ⟨hjq, _⟩ | ⟨h1, _, o, d, ho, had, hf⟩ | ⟨h1, _⟩
     ·exact absurd hjq noq
     ·have e : o = oj := Option.some.inj (ho.symm.trans hoj)
      subst e
      exact ⟨d, h1, had, hf⟩
     ·omega
    obtain ⟨d, hjm, had, _⟩ := key 0 0
    have had0 : MkD P w al val (dp j) G j oj d a := by
     have := had.less hij'
     rw [← ha.dst] at this
     exact this.unput (fun cs b => hsel j oj cs b hoj) p1
    refine .inr (.inl ⟨hjm, hjn, oj, d, hoj, had0, fun b' e' => ?_⟩)
    have ha' : MkD P w al val (dp i) (upd G j (b', e')) i oi di (a.put (some d) (val j b' e')) := by
     have := (ha.put (u := val j b' e') (fun cs b => hsel i oi cs b hi) p3).more (g := (b', e')) hji'
     rw [had0.dst] at this
     exact this
    refine GM_firstM hi hsel hs hc hn him hin hips hdp hdone f _ _ _ (inv.set hj hjn) (fun m hm => by
     rcases hall0 m hm with h | h
     ·exact .inl (set_listed h)
     ·exact .inr h) hfree' (ready_mono hr (Ne.symm hji)) ha' fun b e => ?_
    obtain ⟨d', _, had', hf⟩ := key b e
    have ed : d' = d := Option.some.inj (had'.dst.symm.trans had0.dst)
    subst ed
    rw [Array.setIfInBounds_comm _ _ hji, upd_comm G hji]
    have hp : ∀ x, some di = some x → some d' ≠ some x := fun x hx => by rw [← had0.dst]; exact p2 x (by rw [ha.dst]; exact hx)
    rw [← Act.put_comm a _ _ hp]
    exact hf b' e'
def ordB (md : Region.Mode) (ops : Array Oper) (g k : Nat) (qs ms : List Nat) : List Nat → Array Bool → Bool
 | [], got => Region.seqB md ops g k got
 | i :: l, got => (Region.ready md ops got).contains i && Region.free md ops got i && (qs.contains i || (ms.contains i && qs.all fun j => got.getD j true || depB md ops j i)) && ordB md ops g k qs ms l (got.setIfInBounds i true)
def Can (P : Program) (ops : Array Oper) (w : World) (al : Nat → World → Nat → Ex → Prop) (val : Nat → Nat → Ex → Value) (qs ms : List Nat) (dp : Nat → List Nat) (Lq : (Nat → Option (Nat × Ex)) → Act → Prop) : List Nat → (Nat → Option (Nat × Ex)) → Act → Prop
 | [], G, a => Lq G a
 | i :: l, G, a => (qs.contains i = true ∧ ∃ o v, ops[i]? = some o ∧ YD P ops w al (dp i) G o v a ∧ Can P ops w al val qs ms dp Lq l G (a.put o.dst v)) ∨
   (qs.contains i = false ∧ ∃ o d, ops[i]? = some o ∧ MkD P w al val (dp i) G i o d a ∧ ∀ b e, Can P ops w al val qs ms dp Lq l (upd G i (b, e)) (a.put (some d) (val i b e)))
theorem GM_lex {g : Nat} {Q : Exit → Act → World → Prop} {Lq : (Nat → Option (Nat × Ex)) → Act → Prop} (hL : ∀ G got a u, Cm w al G u → (Region.seqB md ops g k got = true ∧ Lq G a) → wpAny P md ops Q g got a u) (hQ : NoFrame Q) (hpu : ∀ p ∈ ps, ∀ o, ops[p]? = some o → Pure P o)
  (hsel : Region.noSelect ops = true) (hs : FS.waitB md ops k ps = true) (hc : Region.chainB md ops k = true) (hn : k < ops.size) (hdp : ∀ j m, j < k → m ∈ dp j → depB md ops j m = true) (hmp : ∀ i, i ∈ ms → i ∉ ps) :
  ∀ (l : List Nat) (G : Nat → Option (Nat × Ex)) (got : Array Bool) (a : Act), (∀ i, i ∈ l → i < k) → HeadInv md ops k got → ordB md ops g k qs ms l got = true → Can P ops w al val qs ms dp Lq l G a →
  GM P md ops w al val k qs ms dp g Q (fun G' got' a' => Region.seqB md ops g k got' = true ∧ Lq G' a') l.length G got a
 | [], G, got, a, _, _, hB, h => ⟨hB, h⟩
 | i :: l, G, got, a, hl, inv, hB, h => by
  simp only [ordB, Bool.and_eq_true] at hB
  obtain ⟨⟨⟨hr, hf⟩, hq⟩, hB'⟩ := hB
  have hin := hl i (List.mem_cons_self ..)
  have hr' : i ∈ Region.ready md ops got := by simpa using hr
  rcases h with ⟨hiq, o, v, h0, hy, hK⟩ | ⟨hiq, o, d, h0, ha, hK⟩
  ·refine GM_first hL hQ hpu h0 (Region.noSelect_spec hsel) hs hc hn (by simpa using hiq) hin hdp (fun G' got' a' hL => seqB_ready hL.1) l.length G got a inv (Region.free_spec h0 hf) hr' hy ?_
   exact GM_lex hL hQ hpu hsel hs hc hn hdp hmp l G _ _ (fun j hj => hl j (List.mem_cons_of_mem _ hj)) (inv.set hr' hin) hB' hK
  ·rw [hiq] at hq
   simp only [Bool.false_or, Bool.and_eq_true, List.all_eq_true, Bool.or_eq_true] at hq
   have him : i ∈ ms := by simpa using hq.1
   refine GM_firstM h0 (Region.noSelect_spec hsel) hs hc hn him hin (hmp i him) hdp (fun G' got' a' hL => seqB_ready hL.1) l.length G got a inv hq.2 (Region.free_spec h0 hf) hr' ha fun b e => ?_
   exact GM_lex hL hQ hpu hsel hs hc hn hdp hmp l _ _ _ (fun j hj => hl j (List.mem_cons_of_mem _ hj)) (inv.set hr' hin) hB' (hK b e)
theorem can_quiet {A : Act} {N : Nat} {ds : List Nat} {Lq : (Nat → Option (Nat × Ex)) → Act → Prop} {rest : List Nat} {G : Nat → Option (Nat × Ex)} (hst : Lasts al) (hG0 : ∃ G', agree ds G G' ∧ ∃ u, Cm w al G' u) : ∀ (l : List Nat) (lo : List Oper) (a : Act), l.map (fun i => ops[i]?) = lo.map some → a.tmps.size = N → dstB N lo = true → (∀ i, i ∈ l → qs.contains i = true) → (∀ i, i ∈ l → ∀ m, m ∈ ds → m ∈ dp i) →
  (∀ G', agree ds G G' → (∃ u, Cm w al G' u) → wpQuiet P ops (Cm w al G') (fun a' => a' = A) lo a) → Can P ops w al val qs ms dp Lq rest G A → Can P ops w al val qs ms dp Lq (l ++ rest) G a
 | [], [], a, _, _, _, _, _, h, hA => by
  obtain ⟨G0, hag, hne⟩ := hG0
  have e : a = A := h G0 hag hne
  rw [e]; exact hA
 | [], _ :: _, a, hm, _, _, _, _, h, _ => by simp at hm
 | _ :: _, [], a, hm, _, _, _, _, h, _ => by simp at hm
 | i :: l, o :: lo, a, hm, hN, hD, hq, hds, h, hA => by
  simp only [List.map_cons, List.cons.injEq] at hm
  unfold dstB at hD
  simp only [Bool.and_eq_true] at hD
  obtain ⟨hd, hD'⟩ := hD
  cases ho : o.dst with
  | none => rw [ho] at hd; cases hd
  | some d =>
   rw [ho] at hd
   simp only [Bool.and_eq_true, decide_eq_true_eq, List.all_eq_true, bne_iff_ne] at hd
   obtain ⟨G0, hag, hne⟩ := id hG0
   obtain ⟨v, _, hv⟩ := quiet_cons (h _ hag hne)
   have slot : ∀ G', (∃ u, Cm w al G' u) → ∀ x, wpQuiet P ops (Cm w al G') (fun a' => a' = A) lo (a.put o.dst x) → A.tmps[d]? = some x := fun G' hG x hx => by
    rw [last_slot lo _ hx hd.2, ho]
    exact put_get a d x (by rw [hN]; exact hd.1)
   have all : ∀ G', agree ds G G' → (∃ u, Cm w al G' u) → YieldsIn P ops (Cm w al G') o v a ∧ wpQuiet P ops (Cm w al G') (fun a' => a' = A) lo (a.put o.dst v) := fun G' ha hG => by
    obtain ⟨x, hy, hx⟩ := quiet_cons (h G' ha hG)
    have e : x = v := Option.some.inj ((slot G' hG x hx).symm.trans (slot _ hne v hv))
    rw [e] at hy hx
    exact ⟨hy, hx⟩
   exact .inl ⟨hq i (List.mem_cons_self ..), o, v, hm.1, fun G' ha hG => (all G' (fun m hm' => ha m (hds i (List.mem_cons_self ..) m hm')) hG).1,
    can_quiet hst hG0 l lo _ hm.2 ((put_size ..).trans hN) hD' (fun j hj => hq j (List.mem_cons_of_mem _ hj)) (fun j hj => hds j (List.mem_cons_of_mem _ hj)) (fun G' ha hG => (all G' ha hG).2) hA⟩
def mkB (md : Region.Mode) (ops : Array Oper) (k : Nat) (cs qs ms ps : List Nat) (dp : Nat → List Nat) : Bool :=
 Region.noSelect ops && decide (k < ops.size) && FS.waitB md ops k ps && Region.chainB md ops k && cs.all (fun i => decide (i < k)) && decide (cs.length = k) && (List.range k).all (fun j => (dp j).all fun m => depB md ops j m) && ms.all (fun i => !(ps.contains i)) && ordB md ops (ops.size - k) k qs ms cs (Array.replicate ops.size false)
end
section
variable {P : Program}
theorem reg_mk {id : Nat} {Q : Exit → Act → World → Prop} {a : Act} {w : World} {l : List Oper} {val : Nat → Nat → Ex → Value} (al : Nat → World → Nat → Ex → Prop) (k : Nat) (cs qs ms ps : List Nat) (dp : Nat → List Nat) (hm : P.follows .mixedOrders = true)
  (hB : mkB .any l.toArray k cs qs ms ps dp = true) (hpu : ∀ p ∈ ps, ∀ o, l.toArray[p]? = some o → Pure P o)
  (h : Can P l.toArray w al val qs ms dp (fun G a' => ∀ u, Cm w al G u → wpList P l.toArray (NoPanic Q) (l.drop k) a' u) cs (fun _ => none) a) : (Code.region id l.toArray true).wp P Q a w := by
 refine wp_region_noPanic ?_
 simp only [mkB, Bool.and_eq_true, decide_eq_true_eq, List.all_eq_true, Bool.not_eq_true'] at hB
 obtain ⟨⟨⟨⟨⟨⟨⟨⟨hsel, hn⟩, hs⟩, hc⟩, hlt⟩, hlen⟩, hdp⟩, hmp⟩, hlex⟩ := hB
 have hn' : k < l.length := by simpa using hn
 have hdl : (l.drop k).length = l.toArray.size - k := by simp
 have inv0 : HeadInv .any l.toArray k (Array.replicate l.toArray.size false) :=
  ⟨by simp, fun j oj _ hl => (by rw [getD_replicate_false] at hl; cases hl), fun t _ ht => getD_in (by simpa using ht) (getD_replicate_false _ _)⟩
 have hL : ∀ G got a' u, Cm w al G u → (Region.seqB .any l.toArray (l.toArray.size - k) k got = true ∧ ∀ u, Cm w al G u → wpList P l.toArray (NoPanic Q) (l.drop k) a' u) → wpAny P .any l.toArray (NoPanic Q) (l.toArray.size - k) got a' u := fun G got a' u hu hL => by
  have := wpAny_of_seq (md := .any) (Q' := NoPanic Q) (l.drop k) k got a' u (fun j => by simp [List.getElem?_drop]) (by rw [hdl]; exact hL.1) (hL.2 u hu)
  rwa [hdl] at this
 have H := GM_lex (md := .any) (g := l.toArray.size - k) (P := P) (w := w) (al := al) (val := val) (ps := ps) (Lq := fun G a' => ∀ u, Cm w al G u → wpList P l.toArray (NoPanic Q) (l.drop k) a' u) (qs := qs) (ms := ms) (dp := dp) (Q := NoPanic Q)
  hL (fun _ _ _ _ h => h) hpu hsel hs hc hn (fun j m hj hm => hdp j (List.mem_range.2 hj) m hm) (fun i hi hp => by have := hmp i hi; simp at this; exact this hp) cs (fun _ => none) _ a (fun i hi => hlt i hi) inv0 hlex h
 refine wp_region_any hm ?_
 have c0 : Cm w al (fun _ => none) { w with drawn := w.drawn + 1 } := ⟨made_draw w, fun i g e => (by cases e), fun i j t u e => (by cases e)⟩
 have := GM_any hL _ _ _ _ _ c0 H
 rw [hlen, show k + (l.toArray.size - k) = l.toArray.size by omega] at this
 exact this
theorem can_class {lo : List Oper} {w : World} {al : Nat → World → Nat → Ex → Prop} {val : Nat → Nat → Ex → Value} {qs ms : List Nat} {dp : Nat → List Nat} {Lq : (Nat → Option (Nat × Ex)) → Act → Prop} {rest : List Nat} {G : Nat → Option (Nat × Ex)} {a : Act} (l ds : List Nat) (N : Nat) (hst : Lasts al) (hG0 : ∃ G', agree ds G G' ∧ ∃ u, Cm w al G' u)
  (hq : l.map (fun i => lo.toArray[i]?) = (l.filterMap fun i => lo[i]?).map some) (hN : a.tmps.size = N) (hD : dstB N (l.filterMap fun i => lo[i]?) = true) (hqs : (l.all fun i => qs.contains i && ds.all fun m => (dp i).contains m) = true)
  (h : ∃ A : Act, (∀ (T : Type) (_ : Nonempty T) (f : T → World), Class w f → (∀ m, m ∈ ds → ∀ t, G m = some t → ∀ x, w.heap.size ≤ t.1 ∧ t.1 ≤ t.2.hi ∧ t.2.hi ≤ (f x).heap.size ∧ al m (f x) t.1 t.2) → wpQuiet P lo.toArray (fun w' => ∃ x, w' = f x) (fun a' => a' = A) (l.filterMap fun i => lo[i]?) a) ∧
   Can P lo.toArray w al val qs ms dp Lq rest G A) : Can P lo.toArray w al val qs ms dp Lq (l ++ rest) G a := by
 obtain ⟨A, h1, h2⟩ := h
 simp only [List.all_eq_true, Bool.and_eq_true] at hqs
 refine can_quiet (N := N) (ds := ds) hst hG0 l _ a hq hN hD (fun i hi => (hqs i hi).1) (fun i hi m hm => by have := (hqs i hi).2 m hm; simpa using this) (fun G' ha hG => ?_) h2
 obtain ⟨u, hu⟩ := hG
 have := h1 {v // Cm w al G' v} ⟨⟨u, hu⟩⟩ Subtype.val ⟨fun x => x.2.1, fun x v hv => ⟨⟨v, x.2.step hst hv⟩, rfl⟩⟩ (fun m hm g e x => x.2.2.1 m g (by rw [ha m hm]; exact e))
 have e : (fun w' => ∃ x : {v // Cm w al G' v}, w' = x.1) = Cm w al G' := by
  funext w'
  exact propext ⟨fun ⟨x, hx⟩ => hx ▸ x.2, fun h => ⟨⟨w', h⟩, rfl⟩⟩
 rw [e] at this
 exact this
theorem any_class {w : World} {al : Nat → World → Nat → Ex → Prop} (G : Nat → Option (Nat × Ex)) : ∃ G', agree [] G G' ∧ ∃ u, Cm w al G' u :=
 ⟨fun _ => none, fun m hm => (by cases hm), w, Made.rfl_ _ _, fun i g e => (by cases e), fun i j t u e => (by cases e)⟩
theorem can_mk {ops : Array Oper} {w : World} {al : Nat → World → Nat → Ex → Prop} {val : Nat → Nat → Ex → Value} {qs ms : List Nat} {dp : Nat → List Nat} {Lq : (Nat → Option (Nat × Ex)) → Act → Prop} {rest : List Nat} {G : Nat → Option (Nat × Ex)} {a : Act} (i : Nat) (d : Tmp) (o : Oper) (hq : qs.contains i = false) (ho : ops[i]? = some o) (hd : o.dst = some d) (hg : o.guard = none)
  (h1 : ∀ G' u, agree (dp i) G G' → Cm w al G' u → MkUpon P w al val i G' ((execOp a.eval o).run P u))
  (h2 : ∀ b e, Can P ops w al val qs ms dp Lq rest (upd G i (b, e)) (a.put (some d) (val i b e))) : Can P ops w al val qs ms dp Lq (i :: rest) G a :=
 .inr ⟨hq, o, d, ho, ⟨hd, hg, h1⟩, h2⟩
end
end Go.Proofs.YtgdcphmmehedoaaGreat.Fx.MI