/- Layer 16: the anchor of the Frame statements. -/
import Derived.Test.YtfkggnlefblniaaDoorFrD
import Derived.Test.YtfkggnlefblniaaDoorCrO
namespace Go.Proofs.YtfkggnlefblniaaDoor.Fx
open Go.ChangeShapes Go.WideShapes Go.ChangeAt Go.RowKit
set_option linter.unusedVariables false

theorem strB_congr {f g : Nat → Nat} : ∀ n, (∀ i, i < n → f i = g i) → strB f n = strB g n
  | 0, _ => rfl
  | n + 1, h => by rw [strB_next, strB_next, strB_congr n (fun i hi => h i (by omega)), h n (by omega)]
set_option maxRecDepth 100000 in
set_option maxHeartbeats 4000000 in
theorem ffit_c {w : World} (hT : Tab w) : Calls Tryd.prog 8 #[] w fun e w' => e = .returned (.bool true) ∧ Below w.heap.size w w' := by
  have HT := hid hT
  have q1 := Go.Joins.run_convert_bytes_const_at (P := Tryd.prog) w 22 5 #[.int .u8 97, .int .u8 98] 2 2 w.heap.size rfl Tryd.underlying22 Tryd.underlying5
  have B1 : Hid (Below w.heap.size w (w.alloc (.cells #[.int .u8 97, .int .u8 98] 5 (2, 3)))) := below_new _ _
  have Y1 : Hid (By (w.alloc (.cells #[.int .u8 97, .int .u8 98] 5 (2, 3))) (some ⟨w.heap.size, 0, none⟩) 2 abF) := By.new _ _ _ _ _ fun i hi => by
    match i, hi with
    | 0, _ => rfl
    | 1, _ => rfl
  clear hT
  go_enter Tryd.func8, Tryd.ntmps8
  go_wp2_with fail
  refine (fbytes_c (p := abF) (n := 7) ab_lt (HT.out.bel B1.out) Y1.out (by omega) (by omega) (by omega)).mono ?_
  rintro e w1 ⟨ao1, c1, rfl, hc1, hO, hM⟩
  have T1 := hid ((HT.out.bel B1.out).kept hM)
  have B2 : Hid (Below w.heap.size w w1) := B1.out.trans (hM.1.mono B1.out.size)
  have Y2 := hid hO.by_
  clear hO hM q1
  go_wp2_with fail
  refine (next_c (g := recF abF 2 7) (most := 10) (recF_lt ab_lt 2 7) T1.out Y2.out hc1 (by omega) (by omega) (by omega)).mono ?_
  rintro e w2 ⟨a, v, k, q, rfl, hq, ht, hf, hM⟩
  have hq1 : q = true := hq.2 ((isRec_rec (m := 2) (n := 7) ab_lt (by omega) (by omega) (by omega) (by omega) fun i _ => rfl).2 (by omega))
  subst hq1
  obtain ⟨rfl, rfl, ao2, c2, rfl, hc2, hO⟩ := ht rfl
  have es : sizeF (recF abF 2 7) = 2 := rec_size (by omega)
  have en : numF (recF abF 2 7) = 7 := rec_num (by omega) (by omega)
  rw [es] at hO hc2
  have B3 : Hid (Below w.heap.size w w2) := B2.out.trans (hM.1.mono B2.out.size)
  have q4 : ∀ u : World, Below w2.heap.size w2 u → (convert 22 9 (.slice ao2 2 c2)).run Tryd.prog u = .ok (.string ⟨#[97, 98]⟩) u := fun u hu => by
    rw [conv_by (hO.by_.bel hu), ← str_ab, strB_congr 2 fun i hi => rec_pay abF 2 7 i]
  have q5 := q4 _ (below_new w2 (.cells #[Value.int .i64 7, Value.slice ao2 2 c2] 28))
  rw [es, en]
  have e22 : ((2 + 20 : Nat) : Int) = 22 := rfl
  rw [e22]
  have B4 : Hid (Below w.heap.size w (w2.alloc (.cells #[Value.int .i64 7, Value.slice ao2 2 c2] 28))) := B3.out.trans ((below_new w2 _).mono B3.out.size)
  clear hO hM hq ht hf es en e22 hc1 hc2 q4
  go_wp2_with fail
  go_ret
  exact ⟨rfl, B4.out⟩
end Go.Proofs.YtfkggnlefblniaaDoor.Fx
