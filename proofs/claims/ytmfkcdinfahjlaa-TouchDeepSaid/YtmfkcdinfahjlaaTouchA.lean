/- Contracts of the statements' own words for touching bodies: rows of numbers, first, corners, point. -/
import Derived.Test.YtmfkcdinfahjlaaTouchP
import Derived.Test.YtmfkcdinfahjlaaPlace
import Derived.Test.YtmfkcdinfahjlaaShapeE
namespace Go.Proofs.Ytmfkcdinfahjlaa.Fx
open Go.ChangeShapes Go.WideShapes Go.ChangeAt Go.RowKit
set_option linter.unusedVariables false

/-- block g begins with these n numbers -/
def Ints (w : World) (g n : Nat) (h : Nat → Int) : Prop := ∀ i, i < n → w.cell? ⟨g, i, none⟩ = some (.int .i64 (h i))
theorem Ints.kept {w v : World} {g n : Nat} {h : Nat → Int} (q : Ints w g n h) (k : Made w.heap.size w v) : Ints v g n h := fun i hi => k.reads (q i hi)
theorem Ints.stays {w v : World} {g n B : Nat} {h : Nat → Int} (q : Ints w g n h) (k : Made B w v) (hg : g < B) : Ints v g n h := fun i hi => k.at_ (by exact hg) (q i hi)
theorem Ints.here {w : World} {g n : Nat} {h : Nat → Int} (q : Ints w g n h) (hn : 0 < n) : g < w.heap.size := World.block_lt_of_cell? (a := ⟨g, 0, none⟩) w (q 0 hn)
theorem Ints.congr {w : World} {g n : Nat} {h k : Nat → Int} (q : Ints w g n h) (e : ∀ i, i < n → h i = k i) : Ints w g n k := fun i hi => by rw [← e i hi]; exact q i hi
def ints (h : Nat → Int) (n : Nat) : List Value := (List.range n).map fun i => .int .i64 (h i)
theorem ints_next (h : Nat → Int) (n : Nat) {x : Int} (e : h n = x) : ints h n ++ [.int .i64 x] = ints h (n + 1) := by
  unfold ints
  rw [List.range_succ, List.map_append, ← e]
  rfl
theorem Ints.of_own {w : World} {base n : Nat} {t : TypeId} {v : Value} {h : Nat → Int} (q : w.ownsRow base t 1 v n (ints h n)) (hn : 0 < n) :
    ∃ g cap, v = .slice (some ⟨g, 0, none⟩) n cap ∧ base ≤ g ∧ Ints w g n h := by
  rcases q.2 with ⟨_, h0⟩ | ⟨g, cap, cur, hv, hb, hh, hc, hm, hs, ht⟩
  · omega
  · refine ⟨g, cap, hv, hb, fun i hi => ?_⟩
    rw [cell_of_row w g i cur t (0, 0) hh]
    have e : (ints h n)[i]? = some (.int .i64 (h i)) := by unfold ints; rw [List.getElem?_map, List.getElem?_range hi]; rfl
    rw [← ht, List.getElem?_take, if_pos (by omega)] at e
    simpa using e

/-- what a body is in memory: b, in place -/
def BodyAt (w : World) (X Y A K R : Int) (s : Value) (b : Bdy) : Prop :=
  I64 X ∧ I64 Y ∧ I64 A ∧ I64 R ∧ ((K = 1 ∧ s = .slice none 0 0 ∧ b = .disc (X, Y) R) ∨
  (K = 2 ∧ R = 0 ∧ ∃ g off n cap f, s = .slice (some ⟨g, off, none⟩) n cap ∧ 3 ≤ n ∧ n ≤ 8 ∧ Pts w g off n f ∧ Cin f n ∧ b = .poly (placeF f (cs (stepF A)) (sn (stepF A)) X Y) n))
theorem BodyAt.kept {w v : World} {X Y A K R : Int} {s : Value} {b : Bdy} (h : BodyAt w X Y A K R s b) (k : Made w.heap.size w v) : BodyAt v X Y A K R s b := by
  obtain ⟨h0, h1, h2, h3, h4⟩ := h
  refine ⟨h0, h1, h2, h3, h4.imp id ?_⟩
  rintro ⟨hK, hR, g, off, n, cap, f, hs, n3, n8, hp, r⟩
  exact ⟨hK, hR, g, off, n, cap, f, hs, n3, n8, hp.kept k, r⟩

/-- a list of points: four cells each -/
def PtsT (w : World) (ao : Option Addr) (l : List Pnt) : Prop := 0 < l.length → ∃ b off, ao = some ⟨b, off, none⟩ ∧ ∀ i p, l[i]? = some p →
  w.cell? ⟨b, off + i * 4, none⟩ = some (.int .i64 p.x) ∧ w.cell? ⟨b, off + i * 4 + 1, none⟩ = some (.int .i64 p.y) ∧ w.cell? ⟨b, off + i * 4 + 2, none⟩ = some (.int .i64 p.d) ∧ w.cell? ⟨b, off + i * 4 + 3, none⟩ = some (.int .i64 p.k)
theorem PtsT.kept {w v : World} {ao : Option Addr} {l : List Pnt} (h : PtsT w ao l) (k : Made w.heap.size w v) : PtsT v ao l := fun hl => by
  obtain ⟨b, off, e, h⟩ := h hl
  exact ⟨b, off, e, fun i p hi => ⟨k.reads (h i p hi).1, k.reads (h i p hi).2.1, k.reads (h i p hi).2.2.1, k.reads (h i p hi).2.2.2⟩⟩
abbrev tchV (nx ny : Int) (ao : Option Addr) (n c : Nat) : Value := .agg #[.int .i64 nx, .int .i64 ny, .slice ao n c]
/-- a touch, or none, is answered -/
def TouchR (t : Option Tch) (w : World) (e : Ending) (w' : World) : Prop :=
  ∃ ao c, e = .returned (.tuple #[tchV (t.getD noTch).nx (t.getD noTch).ny ao (t.getD noTch).pts.length c, .bool t.isSome]) ∧ PtsT w' ao (t.getD noTch).pts ∧ Made w.heap.size w w'
theorem touch_none {w w' : World} {c : Nat} {ao : Option Addr} (k : Made w.heap.size w w') : TouchR none w (.returned (.tuple #[tchV 0 0 ao 0 c, .bool false])) w' :=
  ⟨ao, c, rfl, fun h => absurd h (by simp [noTch]), k⟩

theorem touch_one {w w' : World} {nx ny ax ay d k : Int} {b c : Nat} (h0 : w'.cell? ⟨b, 0, none⟩ = some (.int .i64 ax)) (h1 : w'.cell? ⟨b, 1, none⟩ = some (.int .i64 ay)) (h2 : w'.cell? ⟨b, 2, none⟩ = some (.int .i64 d)) (h3 : w'.cell? ⟨b, 3, none⟩ = some (.int .i64 k)) (hk : Made w.heap.size w w') :
    TouchR (some (oneT (nx, ny) (ax, ay) d k)) w (.returned (.tuple #[tchV nx ny (some ⟨b, 0, none⟩) 1 c, .bool true])) w' := by
  refine ⟨some ⟨b, 0, none⟩, c, rfl, fun _ => ⟨b, 0, rfl, fun i p hi => ?_⟩, hk⟩
  rcases i with _ | i
  · simp [oneT] at hi
    subst hi
    exact ⟨h0, h1, h2, h3⟩
  · simp [oneT] at hi
/-- the one point of a touch -/
theorem PtsT.cells {w : World} {b : Nat} {p : Pnt} (h : PtsT w (some ⟨b, 0, none⟩) [p]) :
    w.cell? ⟨b, 0, none⟩ = some (.int .i64 p.x) ∧ w.cell? ⟨b, 1, none⟩ = some (.int .i64 p.y) ∧ w.cell? ⟨b, 2, none⟩ = some (.int .i64 p.d) ∧ w.cell? ⟨b, 3, none⟩ = some (.int .i64 p.k) := by
  obtain ⟨b', off, e, h⟩ := h (by simp)
  simp at e
  obtain ⟨rfl, rfl⟩ := e
  have := h 0 p rfl
  simpa using this

end Go.Proofs.Ytmfkcdinfahjlaa.Fx
