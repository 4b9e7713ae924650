/- Package disk: what a crash cuts off. -/
import Derived.Test.YtdaelblapgcljaaDkS
namespace Go.Proofs.Ytdaelblapgcljaa.Fx
open Go.ChangeShapes Go.WideShapes Go.ChangeAt Go.RowKit Go.Maps
set_option linter.unusedVariables false

/-- of the bytes that are not durable so many stay -/
def limK (f : Fil) (ks : List Int) : Nat := (min (max (ks.headD 0) 0) ((f.b.length : Int) - f.sure)).toNat
def cut1 (f : Fil) (ks : List Int) : Fil := if f.b.length = f.sure then f else { f with b := f.b.take (f.sure + limK f ks), sure := f.sure + limK f ks }
def cutR (f : Fil) (ks : List Int) : List Int := if f.b.length = f.sure then ks else ks.tail
def cutL : List Fil → List Int → List Fil
  | [], _ => []
  | f :: l, ks => cut1 f ks :: cutL l (cutR f ks)
theorem cut1_id (f : Fil) (ks : List Int) : (cut1 f ks).id = f.id := by unfold cut1; split <;> rfl
/-- ints that can be read -/
def InK (w : World) (ao : Option Addr) (l : List Int) : Prop := 0 < l.length → ∃ b off, ao = some ⟨b, off, none⟩ ∧ ∀ i, i < l.length → w.cell? ⟨b, off + i, none⟩ = some (.int .i64 (l.getD i 0))
theorem InK.tn {X : Nat → Prop} {w v : World} {ao : Option Addr} {l : List Int} (h : InK w ao l) (k : Tn X w v) (hx : 0 < l.length → ∀ b off, ao = some ⟨b, off, none⟩ → ¬ X b) : InK v ao l := fun hn => by
  obtain ⟨b, off, e, hc⟩ := h hn
  exact ⟨b, off, e, fun i hi => k.cell (hc i hi) (hx hn b off e)⟩
theorem InK.tail {w : World} {b off : Nat} {x : Int} {l : List Int} (h : InK w (some ⟨b, off, none⟩) (x :: l)) : InK w (some ⟨b, off + 1, none⟩) l := fun hn => by
  obtain ⟨b', off', e, hc⟩ := h (by simp)
  cases e
  refine ⟨b, off + 1, rfl, fun i hi => ?_⟩
  have := hc (i + 1) (by simp; omega)
  rw [show off + 1 + i = off + (i + 1) by omega, this]
  simp
theorem put_mid {a b : List Fil} {f : Fil} (hd : ((a ++ f :: b).map (·.id)).Pairwise (· < ·)) (g : Fil → Fil) : putD (a ++ f :: b) f.id g = a ++ g f :: b := by
  rw [List.map_append, List.map_cons, List.pairwise_append, List.pairwise_cons] at hd
  obtain ⟨h1, ⟨h2, h3⟩, h4⟩ := hd
  unfold putD
  rw [List.map_append, List.map_cons, if_pos rfl]
  congr 1
  · refine (List.map_congr_left fun x hx => ?_).trans (List.map_id _)
    have := h4 x.id (List.mem_map.2 ⟨x, hx, rfl⟩) f.id (by simp)
    rw [if_neg (by omega)]; rfl
  · congr 1
    refine (List.map_congr_left fun x hx => ?_).trans (List.map_id _)
    have := h2 x.id (List.mem_map.2 ⟨x, hx, rfl⟩)
    rw [if_neg (by omega)]; rfl
theorem cell_ids {w : World} {base : Nat} {v : Value} {l : List Fil} (h : w.ownsRow base 3 1 v l.length ((idsZ l).map Go.encZ)) : ∃ ao c, v = .slice ao l.length c ∧ l.length ≤ c ∧ ∀ i f, l[i]? = some f → ∃ g, ao = some ⟨g, 0, none⟩ ∧ base ≤ g ∧ g < w.heap.size ∧ w.cell? ⟨g, i, none⟩ = some (.int .i64 (f.id : Nat)) := by
  rcases h.2 with ⟨rfl, h0⟩ | ⟨g, cap, cur, rfl, hb, hh, hc, hm, hs, ht⟩
  · refine ⟨none, 0, by rw [h0], by omega, fun i f hi => ?_⟩
    have := (List.getElem?_eq_some_iff.1 hi).1
    omega
  · refine ⟨_, cap, rfl, hc, fun i f hi => ⟨g, rfl, hb, Has.here (t := 3) (cs := cur) hh, ?_⟩⟩
    have hil := (List.getElem?_eq_some_iff.1 hi).1
    have hG : Has w g 3 cur := hh
    rw [hG.at_]
    have e : ((idsZ l).map Go.encZ)[i]? = some (.int .i64 (f.id : Nat)) := by
      unfold idsZ
      rw [List.getElem?_map, List.getElem?_map, hi]; rfl
    rw [← ht, List.getElem?_take, if_pos (by omega)] at e
    simpa using e
/-- j files are cut; of the numbers these are left -/
structure CutSt (w : World) (k : Dk) (d : Dsk) (ks0 : List Int) (wr : World) (j : Nat) (ao : Option Addr) (ks : List Int) : Prop where
  st : ∃ (dn td : List Fil) (kr : Dk), dn.length = j ∧ d.files.drop j = td ∧ cutL d.files ks0 = dn ++ cutL td ks ∧ dn.map (·.id) = (d.files.take j).map (·.id) ∧ DRes w wr k d kr { d with files := dn ++ td } ∧ kr.bf = k.bf
  ik : InK wr ao ks
  ob : 0 < ks.length → ∀ b off, ao = some ⟨b, off, none⟩ → ¬ Foot k d b ∧ b < w.heap.size
  il : ∀ x ∈ ks, -9223372036854775808 ≤ x ∧ x ≤ 9223372036854775807
theorem wrapD_small (x : Int) (h1 : -9223372036854775808 ≤ x) (h2 : x ≤ 9223372036854775807) : wrap64 x = x := by
  have := IntKind.wrap_i64 x
  unfold IntKind.wrap at this
  simp only [wrap64] at *
  omega
theorem wrapN {n : Nat} (h : n ≤ 1099511627776) : wrap64 ((n : Nat) : Int) = (n : Nat) := wrapD_small _ (by omega) (by omega)
theorem limK_le (f : Fil) (ks : List Int) (h : f.sure ≤ f.b.length) : f.sure + limK f ks ≤ f.b.length := by unfold limK; omega
def alCl (n : Nat) (fn : Nat → Nat) (i : Nat) (v : World) (g : Nat) (e : MB.Ex) : Prop := OB v g e.v n fn ∧ (∀ b, e.v.ownBlock = some b → b < e.hi)
theorem alCl_lasts (n : Nat) (fn : Nat → Nat) : MB.Lasts (alCl n fn) := fun i u v g e h hh k => ⟨h.1.tn (Below.tn (X := NilB) k) (fun _ _ h => h), h.2⟩
def valCl (i g : Nat) (e : MB.Ex) : Value := e.v
end Go.Proofs.Ytdaelblapgcljaa.Fx
