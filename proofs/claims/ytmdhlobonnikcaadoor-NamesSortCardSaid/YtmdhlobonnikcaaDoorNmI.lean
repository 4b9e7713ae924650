/- Package names: Sort. -/
import Derived.Test.YtmdhlobonnikcaaDoorNmH
namespace Go.Proofs.YtmdhlobonnikcaaDoor.Fx
open Go.ChangeShapes Go.WideShapes Go.ChangeAt Go.RowKit Go.Maps Go.Sort Go.Shelf
set_option linter.unusedVariables false

/-- texts in a row -/
def Ss (w : World) (ao : Option Addr) (L : List ByteArray) : Prop := 0 < L.length → ∃ b off, ao = some ⟨b, off, none⟩ ∧ ∀ (i : Nat) (s : ByteArray), L[i]? = some s → w.cell? ⟨b, off + i, none⟩ = some (.string s)
theorem Ss.bel {w u : World} {ao : Option Addr} {L : List ByteArray} (h : Ss w ao L) (k : Below w.heap.size w u) : Ss u ao L := fun hn => by
  obtain ⟨b, off, e, hc⟩ := h hn
  exact ⟨b, off, e, fun i s hi => (k.cell (World.block_lt_of_cell? (a := ⟨b, off + i, none⟩) w (hc i s hi))).trans (hc i s hi)⟩
/-- two rows of numbers of one's own, apart -/
structure Rows2 (w : World) (base : Nat) (va vb : Value) (xs ys : List Int) : Prop where
  a : OZ w base va xs
  b : OZ w base vb ys
  apart : ApartV va vb
set_option maxRecDepth 100000 in
set_option maxHeartbeats 8000000 in
theorem nsort_c {w : World} {n c : Nat} {ao : Option Addr} {L : List ByteArray} (hT : TabN w) (hS : Ss w ao L) (hL : L.length = n) (hz : ∀ s ∈ L, s.size ≤ maxLen) (hn : n ≤ 1048576) :
    Calls Tryd.prog 13 #[.slice ao n c] w fun e w' => ∃ va vb, e = .returned (.tuple #[va, vb]) ∧ Rows2 w' w.heap.size va vb (sortZ (numsN 99 L)) (sortZ (numsN 106 L)) ∧ Below w.heap.size w w' := by
  have HT := hid hT; have HS := hid hS; have HL := hid hL; have HZ := hid hz
  clear hT hS hL hz
  go_enter Tryd.func13, Tryd.ntmps13
  go_wp2_with fail
  go_loopg [4, 5, 7, 8, 9, 10, 13, 24, 30] n (fun g va vb s c m q i b1 b2 wx => ∃ k : Nat, k + g = n ∧ i = .int .i64 (k : Nat) ∧ Hid (Rows2 wx w.heap.size va vb (numsN 99 (L.take k)) (numsN 106 (L.take k))) ∧ Hid (Below w.heap.size w wx))
  case atStart => exact ⟨0, by omega, rfl, ⟨World.ownsRow_nil _ _ _ _, World.ownsRow_nil _ _ _ _, fun g h => by cases h⟩, Below.refl _ _⟩
  case round =>
    obtain ⟨k, hk, rfl, HR, HB⟩ := hrel
    by_cases hlt : k < n
    · obtain ⟨b, off, rfl, hc⟩ := HS.out.bel HB.out (by have := HL.out; omega)
      obtain ⟨s, es⟩ : ∃ s, L[k]? = some s := ⟨_, List.getElem?_eq_getElem (by have := HL.out; omega)⟩
      have z1 := hc k s es
      have hs := HZ.out s (List.mem_of_getElem? es)
      have h99 := numsN_next (c := 99) es; have h106 := numsN_next (c := 106) es
      have HT1 := hid (HT.out.bel HB.out)
      have HP := hid (parse_c hs HT1.out)
      have hl1 : (numsN 99 (L.take k)).length ≤ 1048576 := Nat.le_trans (numsN_len _ _) (by rw [List.length_take]; omega)
      have hl2 : (numsN 106 (L.take k)).length ≤ 1048576 := Nat.le_trans (numsN_len _ _) (by rw [List.length_take]; omega)
      have HBs : Hid (w.heap.size ≤ wr.heap.size) := HB.out.size
      have HLe := hid (And.intro hl1 hl2)
      clear hc hs es hl1 hl2
      go_wp2_with fail
      refine HP.out.mono ?_
      rintro e w1 ⟨⟨c, m, q, rfl, h1, h2⟩, rfl⟩
      cases q with
      | true =>
        obtain ⟨hok, rfl⟩ := h1 rfl
        clear h1 h2
        have hck := hok.1
        have HOk := hid hok
        clear hok
        rcases hck with rfl | rfl
        · rw [isN_yes HOk.out] at h99
          rw [isN_other HOk.out (by omega)] at h106
          obtain ⟨v', w', hrun, r1, r2, r3, r4⟩ := rows_app (x := (m : Int)) 30 HR.out.a HR.out.b HR.out.apart HLe.out.1 HBs.out
          have HR2 : Hid (Rows2 w' w.heap.size v' u5 (numsN 99 (L.take (k + 1))) (numsN 106 (L.take (k + 1)))) := by
            refine ⟨?_, ?_, r3⟩
            · rw [h99]; exact r1
            · rw [h106]; simpa using r2
          have HB2 := hid (HB.out.trans r4)
          have HRUN := hid hrun
          clear hrun r1 r2 r3 r4 h99 h106 HR HB
          go_wp2_with (at_builtin; refine Lib.wpList_append_run _ rfl _ _ _ _ rfl _ _ rfl rfl _ _ HRUN.out ?_; go_frame)
          go_roundg (n - k - 1)
          case rel => exact ⟨k + 1, by omega, by go_num, HR2, HB2⟩
          case measure => omega
        · rw [isN_yes HOk.out] at h106
          rw [isN_other HOk.out (by omega)] at h99
          obtain ⟨v', w', hrun, r1, r2, r3, r4⟩ := rows_app (x := (m : Int)) 30 HR.out.b HR.out.a HR.out.apart.symm HLe.out.2 HBs.out
          have HR2 : Hid (Rows2 w' w.heap.size u4 v' (numsN 99 (L.take (k + 1))) (numsN 106 (L.take (k + 1)))) := by
            refine ⟨?_, ?_, r3.symm⟩
            · rw [h99]; simpa using r2
            · rw [h106]; exact r1
          have HB2 := hid (HB.out.trans r4)
          have HRUN := hid hrun
          clear hrun r1 r2 r3 r4 h99 h106 HR HB
          go_wp2_with (at_builtin; refine Lib.wpList_append_run _ rfl _ _ _ _ rfl _ _ rfl rfl _ _ HRUN.out ?_; go_frame)
          go_roundg (n - k - 1)
          case rel => exact ⟨k + 1, by omega, by go_num, HR2, HB2⟩
          case measure => omega
      | false =>
        obtain ⟨rfl, rfl, hno⟩ := h2 rfl
        have HR2 : Hid (Rows2 wr w.heap.size u4 u5 (numsN 99 (L.take (k + 1))) (numsN 106 (L.take (k + 1)))) := by
          rw [isN_none hno] at h99 h106
          refine ⟨?_, ?_, HR.out.apart⟩
          · rw [h99]; simpa using HR.out.a
          · rw [h106]; simpa using HR.out.b
        clear h1 h2 hno h99 h106
        go_wp2_with fail
        go_roundg (n - k - 1)
        case rel => exact ⟨k + 1, by omega, by go_num, HR2, HB⟩
        case measure => omega
    · have e : k = n := by omega
      subst e
      have HR2 : Hid (Rows2 wr w.heap.size u4 u5 (numsN 99 L) (numsN 106 L)) := by
        have := HR.out
        rwa [List.take_of_length_le (Nat.le_of_eq HL.out)] at this
      have hl1 : (numsN 99 L).length ≤ 1048576 := Nat.le_trans (numsN_len _ _) (by rw [HL.out]; exact hn)
      have hl2 : (numsN 106 L).length ≤ 1048576 := Nat.le_trans (numsN_len _ _) (by rw [HL.out]; exact hn)
      have HLe := hid (And.intro hl1 hl2)
      have H1 := hid (sort_own HR2.out.a HLe.out.1)
      clear hl1 hl2 HR
      obtain ⟨va, ea⟩ : ∃ v, u4 = v := ⟨_, rfl⟩
      obtain ⟨vb, eb⟩ : ∃ v, u5 = v := ⟨_, rfl⟩
      rw [ea, eb] at HR2
      rw [ea] at H1
      rw [ea, eb]
      clear ea eb
      go_wp2_with fail
      refine H1.out.mono ?_
      rintro e w1 ⟨rfl, r1, t1⟩
      have HB1 : Hid (Below w.heap.size w w1) := Tn.below_ HB.out t1 HB.out.size fun b hb => own_ge HR2.out.a hb
      have HR3 : Hid (Rows2 w1 w.heap.size va vb (sortZ (numsN 99 L)) (numsN 106 L)) := ⟨r1, own_tn HR2.out.b t1 (fun g h1 h2 => HR2.out.apart g h2 h1), HR2.out.apart⟩
      have H2 := hid (sort_own HR3.out.b HLe.out.2)
      clear r1 t1 HR2
      go_wp2_with fail
      refine H2.out.mono ?_
      rintro e w2 ⟨rfl, r1, t1⟩
      have HB2 : Hid (Below w.heap.size w w2) := Tn.below_ HB1.out t1 HB1.out.size fun b hb => own_ge HR3.out.b hb
      have HR4 : Hid (Rows2 w2 w.heap.size va vb (sortZ (numsN 99 L)) (sortZ (numsN 106 L))) := ⟨own_tn HR3.out.a t1 (fun g h1 h2 => HR3.out.apart g h1 h2), r1, HR3.out.apart⟩
      clear r1 t1 HR3
      go_wp2_with fail
      refine bodyPost_ret (v := .tuple #[va, vb]) (by simp [results, Tryd.results13, go_sem]) rfl ?_
      exact ⟨va, vb, rfl, HR4.out, HB2.out⟩
end Go.Proofs.YtmdhlobonnikcaaDoor.Fx
