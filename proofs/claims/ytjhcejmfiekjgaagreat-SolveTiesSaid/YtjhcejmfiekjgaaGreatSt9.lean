/- WoD WoV -/
import Derived.Test.YtjhcejmfiekjgaaGreatSt6
import Derived.Test.YtjhcejmfiekjgaaGreatSt8
set_option maxRecDepth 100000
set_option maxHeartbeats 64000000
/- DeleteFunc and without over bodies, joints and contacts. -/
namespace Go.Proofs.YtjhcejmfiekjgaaGreat.Fx
open Go.ChangeShapes Go.WideShapes Go.ChangeAt Go.RowKit
set_option linter.unusedVariables false
structure KInv {α : Type} (p : α → Bool) (l : List α) (j i : Nat) (d : List α) : Prop where
 fst : d.take i = (l.take j).filter fun x => !p x
 snd : d.drop j = l.drop j
theorem KInv.at_ {α : Type} {p : α → Bool} {l d : List α} {j i : Nat} (h : KInv p l j i d) (m : Nat) (hm : j ≤ m) : d[m]? = l[m]? := by
 have := congrArg (fun x => x[m - j]?) h.snd
 simp only [List.getElem?_drop] at this
 rwa [show j + (m - j) = m by omega] at this
theorem kinv_start {α : Type} {p : α → Bool} {l : List α} {k : Nat} {z : α} (hz : l[k]? = some z) (h : ∀ j x, j < k → l[j]? = some x → p x = false) (hp : p z = true) : KInv p l (k + 1) k l := by
 refine ⟨?_, rfl⟩
 rw [List.take_add_one, hz, List.filter_append]
 have h1 : ((some z).toList.filter fun x => !p x) = [] := by simp [hp]
 rw [h1, List.append_nil, eq_comm, List.filter_eq_self]
 intro x hx
 obtain ⟨i, hi⟩ := List.mem_iff_getElem?.1 hx
 have hik : i < k := by
  have := (List.getElem?_eq_some_iff.1 hi).1
  rw [List.length_take] at this; omega
 rw [List.getElem?_take, if_pos hik] at hi
 simp [h i x hik hi]
theorem KInv.skip {α : Type} {p : α → Bool} {l d : List α} {j i : Nat} {y : α} (h : KInv p l j i d) (hy : l[j]? = some y) (hp : p y = true) : KInv p l (j + 1) i d := by
 refine ⟨?_, ?_⟩
 ·rw [h.fst, List.take_add_one, hy, List.filter_append]
  simp [hp]
 ·have := congrArg (List.drop 1) h.snd
  simpa [List.drop_drop] using this
theorem KInv.keep {α : Type} {p : α → Bool} {l d : List α} {j i : Nat} {y : α} (h : KInv p l j i d) (hy : l[j]? = some y) (hp : p y = false) (hi : i < d.length) (hij : i ≤ j) : KInv p l (j + 1) (i + 1) (d.set i y) := by
 refine ⟨?_, ?_⟩
 ·rw [List.take_add_one, List.take_set_of_le (Nat.le_refl _), h.fst, List.take_add_one, hy, List.filter_append]
  simp [hp, hi]
 ·rw [List.drop_set_of_lt (by omega)]
  have := congrArg (List.drop 1) h.snd
  simpa [List.drop_drop] using this
def hitF {α : Type} (l : List α) (p : α → Bool) (i : Nat) : Bool := match l[i]? with | some x => p x | none => false
theorem hitF_at {α : Type} {l : List α} {p : α → Bool} {i : Nat} {x : α} (h : l[i]? = some x) : hitF l p i = p x := by unfold hitF; rw [h]
theorem run_clear_row2 {P : Program} (w : World) (t e : TypeId) (z : Value) (ht : P.underlying t = some (.slice e)) (i : TypeInfo) (hi : P.info? e = some i) (hz0 : i.zero = some z) (h1 : ∀ u ∈ z.cells.toList, u.oneCell' = true) (b o n c : Nat) (hn : 0 < n) (hz : 0 < z.cells.size)
  (hc : ∀ j, j < n * z.cells.size → (w.cell? ⟨b, o + j, none⟩).isSome = true) (hf : ∀ j, j < n * z.cells.size → w.frozen? ⟨b, o + j, none⟩ = false) :
  ∃ vs, ∀ ty, (Builtin.clear_ #[t] ty #[.slice (some ⟨b, o, none⟩) n c]).run P w = .ok (.tuple #[]) (w.setCells b o vs) := by
 refine ⟨(Builtin.zeroCells z.cells n).toList, fun ty => ?_⟩
 have hv : ∀ w, (zeroValue e).run P w = .ok z w := fun w => by simp [zeroValue, typeInfo, hi, hz0]
 have hlen : (Builtin.zeroCells z.cells n).toList.length = n * z.cells.size := by simp [Builtin.zeroCells]
 have hst := run_storeCells_cells (P := P) b o (Builtin.zeroCells z.cells n).toList 0 w (by rw [hlen]; simpa using hc) (by rw [hlen]; simpa using hf) (by
  intro v hv'
  obtain ⟨i, hi, rfl⟩ := List.mem_iff_getElem.1 hv'
  rw [hlen] at hi
  refine h1 _ ?_
  simp [Builtin.zeroCells]
  refine Array.mem_of_getElem? (i := i % z.cells.size) ?_
  have : i % z.cells.size < z.cells.size := Nat.mod_lt _ hz
  simp [this])
 simp only [Nat.add_zero] at hst
 obtain ⟨m, rfl⟩ : ∃ m, n = m + 1 := ⟨n - 1, by omega⟩
 simp [Builtin.clear_, run_underlying ht, hv, hst]
theorem delB_c (gf : Nat) (lb : Array Value) (eg : ∀ args w, (callFunc gf args).run Tryz.prog w = .ok (.enter gf args) w) (p : Bd → Bool) {l : List Bd} {g n cap : Nat} {w : World} (hmx : n ≤ 1073741824) (hcap : n ≤ cap) (hcm : cap ≤ maxLen) (hrow : RowL encB 11 w g 43 n l)
  (hS : ∀ x u, But (fun b => b = g) w u → Calls Tryz.prog gf (#[bdV x] ++ lb) u fun e v => e = .returned (.bool (p x)) ∧ Made u.heap.size u v) :
  Calls Tryz.prog 124 #[.slice (some ⟨g, 0, none⟩) n cap, .func (.func gf) #[] lb] w fun e v => ∃ m, e = .returned (.slice (some ⟨g, 0, none⟩) m cap) ∧ m ≤ n ∧ But (fun b => b = g) w v ∧ RowL encB 11 v g 43 m (l.filter fun x => !p x) := by
 unfold maxLen at hcm
 have hn : l.length = n := hrow.1
 have HN := hid hn
 obtain ⟨i0, hi, hz0, hz1, hz2⟩ := info_parts infoB
 have HCL : Hid (∀ (W : World) (i : Nat) (dk : List Bd), RowL encB 11 W g 43 n dk → i < n → ∃ vs, ∀ ty, (Builtin.clear_ #[27] ty #[.slice (some ⟨g, i * 11, none⟩) (n - i) (cap - i)]).run Tryz.prog W = .ok (.tuple #[]) (W.setCells g (i * 11) vs)) := fun W i dk hd hi' => by
  refine run_clear_row2 (P := Tryz.prog) W 27 43 (.agg #[.int .i64 0, .int .i64 0, .int .i64 0, .int .i64 0, .int .i64 0, .int .i64 0, .int .i64 0, .int .i64 0, .int .i64 0, .int .i64 0, .slice none 0 0]) Tryz.underlying27 i0 hi hz0 (by decide) g (i * 11) (n - i) (cap - i) (by omega) (by decide) (fun j hj => ?_) (fun j hj => hd.free _)
  have hj : j < (n - i) * 11 := hj
  refine hd.is_ ?_
  have e : n * 11 = (n - i) * 11 + i * 11 := by rw [← Nat.add_mul]; congr 1; omega
  omega
 have HIF := hid (idxB_c gf lb eg Nil0 (fun _ _ => True) (hitF l p) (c := cap) (w := w) hn (by omega) hrow.lsT (fun _ => Offs.nil _) trivial
  (fun i x u hx hu _ => by
   rw [hitF_at hx]
   exact (hS x u hu.any).mono fun _ _ ⟨a, b⟩ => ⟨a, Made.but b, trivial⟩))
 have HP : Hid (∀ i x, l[i]? = some x → hitF l p i = p x) := fun i x hx => hitF_at hx
 have HR := hid hrow
 have HS := hid hS
 have lg : g < w.heap.size := hrow.here
 clear hi hz0 hz1 hz2 hn hrow hS
 go_enter Tryz.func124, Tryz.ntmps124
 go_wp2_with fail
 refine HIF.out.mono ?_
 rintro e w1 ⟨r, rfl, k1, h⟩
 have k1 := k1.made
 have HR1 := hid (HR.out.stays k1 HR.out.here)
 have K1 : Hid (But (fun b => b = g) w w1) := Made.but k1
 clear k1 HIF
 rcases h with ⟨rfl, hall, _⟩ | ⟨k0, hk0, rfl, ht, hall, _⟩
 ·have HF : Hid (l.filter (fun x => !p x) = l) := by
   unfold Hid
   rw [List.filter_eq_self]
   intro x hx
   obtain ⟨i, hi⟩ := List.mem_iff_getElem?.1 hx
   have h1 := hall i (by rw [← HN.out]; exact (List.getElem?_eq_some_iff.1 hi).1)
   rw [HP.out i x hi] at h1
   simp [h1]
  clear hall
  go_wp2_with fail
  go_ret
  exact ⟨n, rfl, Nat.le_refl _, K1.out, by rw [HF.out]; exact HR1.out⟩
 ·have hne : ((k0 : Int) == -1) = false := beq_eq_false_iff_ne.2 (by omega)
  obtain ⟨z, hz⟩ : ∃ a, l[k0]? = some a := ⟨_, List.getElem?_eq_getElem (by rw [HN.out]; exact hk0)⟩
  have HI : Hid (KInv p l (k0 + 1) k0 l) := by
   have hall' : ∀ j x, j < k0 → l[j]? = some x → p x = false := fun j x hj hx => by rw [← HP.out j x hx]; exact hall j hj
   have ht' : p z = true := by rw [← HP.out k0 z hz]; exact ht
   exact kinv_start hz hall' ht'
  clear ht hall hz
  go_upto_region 4 with fail
  go_wp2_with fail
  go_loopg [5, 6, 7] n (fun gg s5 s6 s7 wx => ∃ (i j : Nat) (dk : List Bd), s5 = .int .i64 (i : Nat) ∧ s6 = .int .i64 (j : Nat) ∧ i < j ∧ j ≤ n ∧ n - j ≤ gg ∧ Hid (But (fun b => b = g) w wx ∧ RowL encB 11 wx g 43 n dk ∧ KInv p l j i dk))
  case atStart => exact ⟨k0, k0 + 1, l, rfl, by go_num, by omega, by omega, by omega, K1.out, HR1.out, HI.out⟩
  case round =>
   obtain ⟨i, j, dk, rfl, rfl, hij, hjn, hgg, HB⟩ := hrel
   have hg : g < wr.heap.size := HB.out.2.1.here
   by_cases hlt : j < n
   ·obtain ⟨y, hy⟩ : ∃ a, l[j]? = some a := ⟨_, List.getElem?_eq_getElem (by rw [HN.out]; exact hlt)⟩
    have hyd : dk[j]? = some y := by rw [HB.out.2.2.at_ j (Nat.le_refl _)]; exact hy
    have hcells := (HB.out.2.1.lsB j y hyd).b11
    have HCall := hid (fun u (hu : But (fun b => b = g) w u) => HS.out y u hu)
    obtain ⟨q, hq⟩ : ∃ q, p y = q := ⟨_, rfl⟩
    rw [hq] at HCall
    have HY := hid hy
    have HQ := hid hq
    obtain ⟨xo, hxo⟩ : ∃ a, dk[i]? = some a := ⟨_, List.getElem?_eq_getElem (by rw [HB.out.2.1.1]; omega)⟩
    have HXO := hid hxo
    clear hy hyd hq hxo
    obtain ⟨y0, y1, y2, y3, y4, y5, y6, y7, y8, y9, y10, y11, y12, y13⟩ := y
    obtain ⟨a0, a1, a2, a3, a4, a5, a6, a7, a8, a9, a10⟩ := hcells
    simp only [] at a0 a1 a2 a3 a4 a5 a6 a7 a8 a9 a10 HCall
    simp only [Nat.zero_add] at a0 a1 a2 a3 a4 a5 a6 a7 a8 a9 a10
    obtain ⟨W2, eW⟩ : ∃ W, W = wr.alloc (.cells #[.int .i64 y0, .int .i64 y1, .int .i64 y2, .int .i64 y3, .int .i64 y4, .int .i64 y5, .int .i64 y6, .int .i64 y7, .int .i64 y8, .int .i64 y9, .slice y10 y11 y12] 43) := ⟨_, rfl⟩
    have k2 : Made wr.heap.size wr W2 := by rw [eW]; exact (Made.rfl_ _ _).cells (Nat.le_refl _) _ _
    have HV : Hid (Has W2 wr.heap.size 43 #[.int .i64 y0, .int .i64 y1, .int .i64 y2, .int .i64 y3, .int .i64 y4, .int .i64 y5, .int .i64 y6, .int .i64 y7, .int .i64 y8, .int .i64 y9, .slice y10 y11 y12]) := by unfold Hid; rw [eW]; exact has_new _ _ _
    have K2 : Hid (But (fun b => b = g) w W2) := HB.out.1.then_ (Made.but k2)
    have HR2 := hid (HB.out.2.1.stays k2 hg)
    have hgne : ¬ g = wr.heap.size := by omega
    obtain ⟨gv, egv⟩ : ∃ gv, wr.heap.size = gv := ⟨_, rfl⟩
    rw [egv] at HV
    have HKI := hid HB.out.2.2
    clear k2 HB
    go_upto_region 8 with fail
    rw [← eW]
    clear eW
    try rw [egv]
    have v0 := HV.out.at_ 0
    have v1 := HV.out.at_ 1
    have v2 := HV.out.at_ 2
    have v3 := HV.out.at_ 3
    have v4 := HV.out.at_ 4
    have v5 := HV.out.at_ 5
    have v6 := HV.out.at_ 6
    have v7 := HV.out.at_ 7
    have v8 := HV.out.at_ 8
    have v9 := HV.out.at_ 9
    have v10 := HV.out.at_ 10
    simp at v0 v1 v2 v3 v4 v5 v6 v7 v8 v9 v10
    have lv : gv < W2.heap.size := HV.out.here
    clear a0 a1 a2 a3 a4 a5 a6 a7 a8 a9 a10
    go_wp2_with fail
    refine (HCall.out _ K2.out).mono ?_
    rintro e W3 ⟨rfl, k3⟩
    have K3 : Hid (But (fun b => b = g) w W3) := K2.out.then_ (Made.but k3)
    have HR3 := hid (HR2.out.stays k3 HR2.out.here)
    have HV3 := hid (HV.out.stays k3 HV.out.here)
    clear k3 lv v0 v1 v2 v3 v4 v5 v6 v7 v8 v9 v10
    cases q with
    | true =>
     go_wp2_with fail
     go_roundg (n - (j + 1))
     case measure => omega
     case rel => exact ⟨i, j + 1, dk, rfl, by go_num, by omega, by omega, Nat.le_refl _, K3.out, HR3.out, HKI.out.skip HY.out HQ.out⟩
    | false =>
     have hcells := (HR3.out.lsB i xo HXO.out).b11
     obtain ⟨b0, b1, b2, b3, b4, b5, b6, b7, b8, b9, b10⟩ := hcells
     simp only [Nat.zero_add] at b0 b1 b2 b3 b4 b5 b6 b7 b8 b9 b10
     have zf : ∀ o, W3.frozen? ⟨g, o, none⟩ = false := HR3.out.free
     have hin : i < n := by omega
     have v0 := HV3.out.at_ 0
     have v1 := HV3.out.at_ 1
     have v2 := HV3.out.at_ 2
     have v3 := HV3.out.at_ 3
     have v4 := HV3.out.at_ 4
     have v5 := HV3.out.at_ 5
     have v6 := HV3.out.at_ 6
     have v7 := HV3.out.at_ 7
     have v8 := HV3.out.at_ 8
     have v9 := HV3.out.at_ 9
     have v10 := HV3.out.at_ 10
     simp at v0 v1 v2 v3 v4 v5 v6 v7 v8 v9 v10
     have lv : gv < W3.heap.size := HV3.out.here
     have lg3 : g < W3.heap.size := HR3.out.here
     go_upto_region 10 with fail
     obtain ⟨W4, eW⟩ : ∃ W, W = (((((((((((W3.setCell ⟨g, i * 11, none⟩ (.int .i64 y0)).setCell ⟨g, i * 11 + 1, none⟩ (.int .i64 y1)).setCell ⟨g, i * 11 + 2, none⟩ (.int .i64 y2)).setCell ⟨g, i * 11 + 3, none⟩ (.int .i64 y3)).setCell ⟨g, i * 11 + 4, none⟩ (.int .i64 y4)).setCell ⟨g, i * 11 + 5, none⟩ (.int .i64 y5)).setCell ⟨g, i * 11 + 6, none⟩ (.int .i64 y6)).setCell ⟨g, i * 11 + 7, none⟩ (.int .i64 y7)).setCell ⟨g, i * 11 + 8, none⟩ (.int .i64 y8)).setCell ⟨g, i * 11 + 9, none⟩ (.int .i64 y9)).setCell ⟨g, i * 11 + 10, none⟩ (.slice y10 y11 y12)) := ⟨_, rfl⟩
     have eW' : W4 = W3.setCells g (i * 11) (encB ⟨y0, y1, y2, y3, y4, y5, y6, y7, y8, y9, y10, y11, y12, y13⟩) := eW
     have HR4 := hid (HR3.out.set encB_len hin ⟨y0, y1, y2, y3, y4, y5, y6, y7, y8, y9, y10, y11, y12, y13⟩)
     have K4 : Hid (But (fun b => b = g) w W4) := by unfold Hid; rw [eW']; exact But.setCells (X := fun b => b = g) (g := g) rfl _ _ K3.out
     rw [← eW'] at HR4
     rw [← eW]
     clear eW eW' zf lv lg3 b0 b1 b2 b3 b4 b5 b6 b7 b8 b9 b10 v0 v1 v2 v3 v4 v5 v6 v7 v8 v9 v10
     go_wp2_with fail
     go_roundg (n - (j + 1))
     case measure => omega
     case rel => exact ⟨i + 1, j + 1, dk.set i ⟨y0, y1, y2, y3, y4, y5, y6, y7, y8, y9, y10, y11, y12, y13⟩, by go_num, by go_num, by omega, by omega, Nat.le_refl _, K4.out, HR4.out, HKI.out.keep HY.out HQ.out (by rw [HR3.out.1]; exact hin) (Nat.le_of_lt hij)⟩
   ·obtain rfl : j = n := by omega
    obtain ⟨vs, hcl⟩ := HCL.out wr i dk HB.out.2.1 hij
    have HR5 := hid (HB.out.2.1.cut encB_len (Nat.le_of_lt hij) vs)
    have K5 : Hid (But (fun b => b = g) w (wr.setCells g (i * 11) vs)) := But.setCells (X := fun b => b = g) (g := g) rfl _ _ HB.out.1
    have HF : Hid (dk.take i = l.filter fun x => !p x) := by
     have e1 : l.take j = l := List.take_of_length_le (by rw [HN.out]; exact Nat.le_refl _)
     have h1 := HB.out.2.2.fst
     rw [e1] at h1
     exact h1
    go_wp2_with fail
    go_ret
    exact ⟨i, rfl, Nat.le_of_lt hij, K5.out, by rw [← HF.out]; exact HR5.out⟩
theorem idxB_nil (g : Nat) (lb : Array Value) (ao : Option Addr) (c : Nat) (w : World) : Calls Tryz.prog 142 #[.slice ao 0 c, .func (.func g) #[] lb] w fun e v => e = .returned (.int .i64 (-1)) ∧ w = v := by
 go_enter Tryz.func142, Tryz.ntmps142
 go_wp2_with fail
 go_loopg [5, 8] 0 (fun gg s5 s8 wx => s8 = .int .i64 0 ∧ wx = w)
 case atStart => exact ⟨rfl, rfl⟩
 case round =>
  obtain ⟨rfl, rfl⟩ := hrel
  go_wp2_with fail
  go_ret
  exact ⟨rfl, rfl⟩
theorem delB_nil (gf : Nat) (lb : Array Value) (ao : Option Addr) (c : Nat) (w : World) : Calls Tryz.prog 124 #[.slice ao 0 c, .func (.func gf) #[] lb] w fun e v => e = .returned (.slice ao 0 c) ∧ Made w.heap.size w v := by
 have HIF := hid (idxB_nil gf lb ao c)
 go_enter Tryz.func124, Tryz.ntmps124
 go_wp2_with fail
 refine (HIF.out _).mono ?_
 rintro e w1 ⟨rfl, rfl⟩
 go_wp2_with fail
 go_ret
 exact ⟨rfl, Made.rfl_ _ _⟩
theorem withoutB_x (gf : Nat) (lb : Array Value) (eg : ∀ args w, (callFunc gf args).run Tryz.prog w = .ok (.enter gf args) w) (p : Bd → Bool) {l : List Bd} {ao : Option Addr} {n c : Nat} {w : World} (hn : l.length = n) (hmx : n ≤ 1073741824) (hl : LsT encB 11 w ao l) (ho : SlOk ao n c)
  (hS : ∀ x u, Made w.heap.size w u → Calls Tryz.prog gf (#[bdV x] ++ lb) u fun e v => e = .returned (.bool (p x)) ∧ Made u.heap.size u v) :
  Calls Tryz.prog 91 #[.slice ao n c, .func (.func gf) #[] lb] w fun e v => ∃ ao' m c', e = .returned (.slice ao' m c') ∧ m ≤ n ∧ NewL encB 11 43 w v ao' m c' (l.filter fun x => !p x) ∧ Made w.heap.size w v ∧ (ao = none → ao' = none ∧ c' = 0) := by
 have HC := hid (cloneB_x hn hmx hl ho)
 have HS := hid hS
 have HN := hid hn
 clear hl hS hn ho
 go_enter Tryz.func91, Tryz.ntmps91
 go_wp2_with fail
 refine HC.out.mono ?_
 rintro e w1 ⟨ao', c', rfl, hnew, k1, hnil⟩
 have HNil := hid hnil
 clear hnil
 have HNw := hid hnew
 have K1 := hid k1
 clear hnew k1
 rcases Nat.eq_zero_or_pos n with h0 | h0
 ·subst h0
  have hl0 : l = [] := List.length_eq_zero_iff.1 HN.out
  have HF : Hid (l.filter (fun x => !p x) = l) := by unfold Hid; rw [hl0]; rfl
  clear hl0
  go_wp2_with fail
  refine (delB_nil gf lb ao' c' _).mono ?_
  rintro e w2 ⟨rfl, k2⟩
  have K2 := hid (K1.out.then_ (k2.low K1.out.1.size))
  have HL2 := hid (HNw.out.ls.below k2.1)
  clear k2
  go_wp2_with fail
  go_ret
  exact ⟨ao', 0, c', rfl, Nat.le_refl _, by rw [HF.out]; exact ⟨HNw.out.len, HL2.out, HNw.out.nc, HNw.out.cm, HNw.out.ok, HNw.out.fresh, fun h => absurd h (by omega)⟩, K2.out, HNil.out⟩
 ·obtain ⟨g, eg', hrow⟩ := HNw.out.row h0
  subst eg'
  have hfr : w.heap.size ≤ g := HNw.out.fresh g 0 _ rfl
  have HD := hid (delB_c gf lb eg p hmx HNw.out.nc HNw.out.cm hrow (fun x u hu => HS.out x u (But.made_ K1.out hu K1.out.1.size (fun b hb => by have hb : b = g := hb; omega))))
  clear hrow
  go_wp2_with fail
  refine HD.out.mono ?_
  rintro e w2 ⟨m, rfl, hmn, k2, hrow2⟩
  have K2 : Hid (Made w.heap.size w w2) := But.made_ K1.out k2 K1.out.1.size (fun b hb => by have hb : b = g := hb; omega)
  have HR2 := hid hrow2
  clear k2 hrow2
  go_wp2_with fail
  go_ret
  exact ⟨_, m, c', rfl, hmn, ⟨HR2.out.1, HR2.out.lsT, Nat.le_trans hmn HNw.out.nc, HNw.out.cm, .inr ⟨_, _, rfl⟩, fun b off s e => (by cases e; exact hfr), fun _ => ⟨g, rfl, HR2.out⟩⟩, K2.out, fun e => absurd (HNil.out e).1 (by simp)⟩
theorem delJ_c (gf : Nat) (lb : Array Value) (eg : ∀ args w, (callFunc gf args).run Tryz.prog w = .ok (.enter gf args) w) (p : Jt → Bool) {l : List Jt} {g n cap : Nat} {w : World} (hmx : n ≤ 1073741824) (hcap : n ≤ cap) (hcm : cap ≤ maxLen) (hrow : RowL encJ 8 w g 36 n l)
  (hS : ∀ x u, But (fun b => b = g) w u → Calls Tryz.prog gf (#[jtV x] ++ lb) u fun e v => e = .returned (.bool (p x)) ∧ Made u.heap.size u v) :
  Calls Tryz.prog 125 #[.slice (some ⟨g, 0, none⟩) n cap, .func (.func gf) #[] lb] w fun e v => ∃ m, e = .returned (.slice (some ⟨g, 0, none⟩) m cap) ∧ m ≤ n ∧ But (fun b => b = g) w v ∧ RowL encJ 8 v g 36 m (l.filter fun x => !p x) := by
 unfold maxLen at hcm
 have hn : l.length = n := hrow.1
 have HN := hid hn
 obtain ⟨i0, hi, hz0, hz1, hz2⟩ := info_parts infoJ
 have HCL : Hid (∀ (W : World) (i : Nat) (dk : List Jt), RowL encJ 8 W g 36 n dk → i < n → ∃ vs, ∀ ty, (Builtin.clear_ #[28] ty #[.slice (some ⟨g, i * 8, none⟩) (n - i) (cap - i)]).run Tryz.prog W = .ok (.tuple #[]) (W.setCells g (i * 8) vs)) := fun W i dk hd hi' => by
  refine run_clear_row2 (P := Tryz.prog) W 28 36 (.agg #[.int .i64 0, .int .i64 0, .int .i64 0, .int .i64 0, .int .i64 0, .int .i64 0, .int .i64 0, .int .i64 0]) Tryz.underlying28 i0 hi hz0 (by decide) g (i * 8) (n - i) (cap - i) (by omega) (by decide) (fun j hj => ?_) (fun j hj => hd.free _)
  have hj : j < (n - i) * 8 := hj
  refine hd.is_ ?_
  have e : n * 8 = (n - i) * 8 + i * 8 := by rw [← Nat.add_mul]; congr 1; omega
  omega
 have HIF := hid (idxJ_c gf lb eg Nil0 (fun _ _ => True) (hitF l p) (c := cap) (w := w) hn (by omega) hrow.lsT (fun _ => Offs.nil _) trivial
  (fun i x u hx hu _ => by
   rw [hitF_at hx]
   exact (hS x u hu.any).mono fun _ _ ⟨a, b⟩ => ⟨a, Made.but b, trivial⟩))
 have HP : Hid (∀ i x, l[i]? = some x → hitF l p i = p x) := fun i x hx => hitF_at hx
 have HR := hid hrow
 have HS := hid hS
 have lg : g < w.heap.size := hrow.here
 clear hi hz0 hz1 hz2 hn hrow hS
 go_enter Tryz.func125, Tryz.ntmps125
 go_wp2_with fail
 refine HIF.out.mono ?_
 rintro e w1 ⟨r, rfl, k1, h⟩
 have k1 := k1.made
 have HR1 := hid (HR.out.stays k1 HR.out.here)
 have K1 : Hid (But (fun b => b = g) w w1) := Made.but k1
 clear k1 HIF
 rcases h with ⟨rfl, hall, _⟩ | ⟨k0, hk0, rfl, ht, hall, _⟩
 ·have HF : Hid (l.filter (fun x => !p x) = l) := by
   unfold Hid
   rw [List.filter_eq_self]
   intro x hx
   obtain ⟨i, hi⟩ := List.mem_iff_getElem?.1 hx
   have h1 := hall i (by rw [← HN.out]; exact (List.getElem?_eq_some_iff.1 hi).1)
   rw [HP.out i x hi] at h1
   simp [h1]
  clear hall
  go_wp2_with fail
  go_ret
  exact ⟨n, rfl, Nat.le_refl _, K1.out, by rw [HF.out]; exact HR1.out⟩
 ·have hne : ((k0 : Int) == -1) = false := beq_eq_false_iff_ne.2 (by omega)
  obtain ⟨z, hz⟩ : ∃ a, l[k0]? = some a := ⟨_, List.getElem?_eq_getElem (by rw [HN.out]; exact hk0)⟩
  have HI : Hid (KInv p l (k0 + 1) k0 l) := by
   have hall' : ∀ j x, j < k0 → l[j]? = some x → p x = false := fun j x hj hx => by rw [← HP.out j x hx]; exact hall j hj
   have ht' : p z = true := by rw [← HP.out k0 z hz]; exact ht
   exact kinv_start hz hall' ht'
  clear ht hall hz
  go_upto_region 4 with fail
  go_wp2_with fail
  go_loopg [5, 6, 7] n (fun gg s5 s6 s7 wx => ∃ (i j : Nat) (dk : List Jt), s5 = .int .i64 (i : Nat) ∧ s6 = .int .i64 (j : Nat) ∧ i < j ∧ j ≤ n ∧ n - j ≤ gg ∧ Hid (But (fun b => b = g) w wx ∧ RowL encJ 8 wx g 36 n dk ∧ KInv p l j i dk))
  case atStart => exact ⟨k0, k0 + 1, l, rfl, by go_num, by omega, by omega, by omega, K1.out, HR1.out, HI.out⟩
  case round =>
   obtain ⟨i, j, dk, rfl, rfl, hij, hjn, hgg, HB⟩ := hrel
   have hg : g < wr.heap.size := HB.out.2.1.here
   by_cases hlt : j < n
   ·obtain ⟨y, hy⟩ : ∃ a, l[j]? = some a := ⟨_, List.getElem?_eq_getElem (by rw [HN.out]; exact hlt)⟩
    have hyd : dk[j]? = some y := by rw [HB.out.2.2.at_ j (Nat.le_refl _)]; exact hy
    have hcells := (HB.out.2.1.lsB j y hyd).j8
    have HCall := hid (fun u (hu : But (fun b => b = g) w u) => HS.out y u hu)
    obtain ⟨q, hq⟩ : ∃ q, p y = q := ⟨_, rfl⟩
    rw [hq] at HCall
    have HY := hid hy
    have HQ := hid hq
    obtain ⟨xo, hxo⟩ : ∃ a, dk[i]? = some a := ⟨_, List.getElem?_eq_getElem (by rw [HB.out.2.1.1]; omega)⟩
    have HXO := hid hxo
    clear hy hyd hq hxo
    obtain ⟨y0, y1, y2, y3, y4, y5, y6, y7⟩ := y
    obtain ⟨a0, a1, a2, a3, a4, a5, a6, a7⟩ := hcells
    simp only [] at a0 a1 a2 a3 a4 a5 a6 a7 HCall
    simp only [Nat.zero_add] at a0 a1 a2 a3 a4 a5 a6 a7
    obtain ⟨W2, eW⟩ : ∃ W, W = wr.alloc (.cells #[.int .i64 y0, .int .i64 y1, .int .i64 y2, .int .i64 y3, .int .i64 y4, .int .i64 y5, .int .i64 y6, .int .i64 y7] 36) := ⟨_, rfl⟩
    have k2 : Made wr.heap.size wr W2 := by rw [eW]; exact (Made.rfl_ _ _).cells (Nat.le_refl _) _ _
    have HV : Hid (Has W2 wr.heap.size 36 #[.int .i64 y0, .int .i64 y1, .int .i64 y2, .int .i64 y3, .int .i64 y4, .int .i64 y5, .int .i64 y6, .int .i64 y7]) := by unfold Hid; rw [eW]; exact has_new _ _ _
    have K2 : Hid (But (fun b => b = g) w W2) := HB.out.1.then_ (Made.but k2)
    have HR2 := hid (HB.out.2.1.stays k2 hg)
    have hgne : ¬ g = wr.heap.size := by omega
    obtain ⟨gv, egv⟩ : ∃ gv, wr.heap.size = gv := ⟨_, rfl⟩
    rw [egv] at HV
    have HKI := hid HB.out.2.2
    clear k2 HB
    go_upto_region 8 with fail
    rw [← eW]
    clear eW
    try rw [egv]
    have v0 := HV.out.at_ 0
    have v1 := HV.out.at_ 1
    have v2 := HV.out.at_ 2
    have v3 := HV.out.at_ 3
    have v4 := HV.out.at_ 4
    have v5 := HV.out.at_ 5
    have v6 := HV.out.at_ 6
    have v7 := HV.out.at_ 7
    simp at v0 v1 v2 v3 v4 v5 v6 v7
    have lv : gv < W2.heap.size := HV.out.here
    clear a0 a1 a2 a3 a4 a5 a6 a7
    go_wp2_with fail
    refine (HCall.out _ K2.out).mono ?_
    rintro e W3 ⟨rfl, k3⟩
    have K3 : Hid (But (fun b => b = g) w W3) := K2.out.then_ (Made.but k3)
    have HR3 := hid (HR2.out.stays k3 HR2.out.here)
    have HV3 := hid (HV.out.stays k3 HV.out.here)
    clear k3 lv v0 v1 v2 v3 v4 v5 v6 v7
    cases q with
    | true =>
     go_wp2_with fail
     go_roundg (n - (j + 1))
     case measure => omega
     case rel => exact ⟨i, j + 1, dk, rfl, by go_num, by omega, by omega, Nat.le_refl _, K3.out, HR3.out, HKI.out.skip HY.out HQ.out⟩
    | false =>
     have hcells := (HR3.out.lsB i xo HXO.out).j8
     obtain ⟨b0, b1, b2, b3, b4, b5, b6, b7⟩ := hcells
     simp only [Nat.zero_add] at b0 b1 b2 b3 b4 b5 b6 b7
     have zf : ∀ o, W3.frozen? ⟨g, o, none⟩ = false := HR3.out.free
     have hin : i < n := by omega
     have v0 := HV3.out.at_ 0
     have v1 := HV3.out.at_ 1
     have v2 := HV3.out.at_ 2
     have v3 := HV3.out.at_ 3
     have v4 := HV3.out.at_ 4
     have v5 := HV3.out.at_ 5
     have v6 := HV3.out.at_ 6
     have v7 := HV3.out.at_ 7
     simp at v0 v1 v2 v3 v4 v5 v6 v7
     have lv : gv < W3.heap.size := HV3.out.here
     have lg3 : g < W3.heap.size := HR3.out.here
     go_upto_region 10 with fail
     obtain ⟨W4, eW⟩ : ∃ W, W = ((((((((W3.setCell ⟨g, i * 8, none⟩ (.int .i64 y0)).setCell ⟨g, i * 8 + 1, none⟩ (.int .i64 y1)).setCell ⟨g, i * 8 + 2, none⟩ (.int .i64 y2)).setCell ⟨g, i * 8 + 3, none⟩ (.int .i64 y3)).setCell ⟨g, i * 8 + 4, none⟩ (.int .i64 y4)).setCell ⟨g, i * 8 + 5, none⟩ (.int .i64 y5)).setCell ⟨g, i * 8 + 6, none⟩ (.int .i64 y6)).setCell ⟨g, i * 8 + 7, none⟩ (.int .i64 y7)) := ⟨_, rfl⟩
     have eW' : W4 = W3.setCells g (i * 8) (encJ ⟨y0, y1, y2, y3, y4, y5, y6, y7⟩) := eW
     have HR4 := hid (HR3.out.set encJ_len hin ⟨y0, y1, y2, y3, y4, y5, y6, y7⟩)
     have K4 : Hid (But (fun b => b = g) w W4) := by unfold Hid; rw [eW']; exact But.setCells (X := fun b => b = g) (g := g) rfl _ _ K3.out
     rw [← eW'] at HR4
     rw [← eW]
     clear eW eW' zf lv lg3 b0 b1 b2 b3 b4 b5 b6 b7 v0 v1 v2 v3 v4 v5 v6 v7
     go_wp2_with fail
     go_roundg (n - (j + 1))
     case measure => omega
     case rel => exact ⟨i + 1, j + 1, dk.set i ⟨y0, y1, y2, y3, y4, y5, y6, y7⟩, by go_num, by go_num, by omega, by omega, Nat.le_refl _, K4.out, HR4.out, HKI.out.keep HY.out HQ.out (by rw [HR3.out.1]; exact hin) (Nat.le_of_lt hij)⟩
   ·obtain rfl : j = n := by omega
    obtain ⟨vs, hcl⟩ := HCL.out wr i dk HB.out.2.1 hij
    have HR5 := hid (HB.out.2.1.cut encJ_len (Nat.le_of_lt hij) vs)
    have K5 : Hid (But (fun b => b = g) w (wr.setCells g (i * 8) vs)) := But.setCells (X := fun b => b = g) (g := g) rfl _ _ HB.out.1
    have HF : Hid (dk.take i = l.filter fun x => !p x) := by
     have e1 : l.take j = l := List.take_of_length_le (by rw [HN.out]; exact Nat.le_refl _)
     have h1 := HB.out.2.2.fst
     rw [e1] at h1
     exact h1
    go_wp2_with fail
    go_ret
    exact ⟨i, rfl, Nat.le_of_lt hij, K5.out, by rw [← HF.out]; exact HR5.out⟩
theorem idxJ_nil (g : Nat) (lb : Array Value) (ao : Option Addr) (c : Nat) (w : World) : Calls Tryz.prog 143 #[.slice ao 0 c, .func (.func g) #[] lb] w fun e v => e = .returned (.int .i64 (-1)) ∧ w = v := by
 go_enter Tryz.func143, Tryz.ntmps143
 go_wp2_with fail
 go_loopg [5, 8] 0 (fun gg s5 s8 wx => s8 = .int .i64 0 ∧ wx = w)
 case atStart => exact ⟨rfl, rfl⟩
 case round =>
  obtain ⟨rfl, rfl⟩ := hrel
  go_wp2_with fail
  go_ret
  exact ⟨rfl, rfl⟩
theorem delJ_nil (gf : Nat) (lb : Array Value) (ao : Option Addr) (c : Nat) (w : World) : Calls Tryz.prog 125 #[.slice ao 0 c, .func (.func gf) #[] lb] w fun e v => e = .returned (.slice ao 0 c) ∧ Made w.heap.size w v := by
 have HIF := hid (idxJ_nil gf lb ao c)
 go_enter Tryz.func125, Tryz.ntmps125
 go_wp2_with fail
 refine (HIF.out _).mono ?_
 rintro e w1 ⟨rfl, rfl⟩
 go_wp2_with fail
 go_ret
 exact ⟨rfl, Made.rfl_ _ _⟩
theorem withoutJ_x (gf : Nat) (lb : Array Value) (eg : ∀ args w, (callFunc gf args).run Tryz.prog w = .ok (.enter gf args) w) (p : Jt → Bool) {l : List Jt} {ao : Option Addr} {n c : Nat} {w : World} (hn : l.length = n) (hmx : n ≤ 1073741824) (hl : LsT encJ 8 w ao l) (ho : SlOk ao n c)
  (hS : ∀ x u, Made w.heap.size w u → Calls Tryz.prog gf (#[jtV x] ++ lb) u fun e v => e = .returned (.bool (p x)) ∧ Made u.heap.size u v) :
  Calls Tryz.prog 93 #[.slice ao n c, .func (.func gf) #[] lb] w fun e v => ∃ ao' m c', e = .returned (.slice ao' m c') ∧ m ≤ n ∧ NewL encJ 8 36 w v ao' m c' (l.filter fun x => !p x) ∧ Made w.heap.size w v ∧ (ao = none → ao' = none ∧ c' = 0) := by
 have HC := hid (cloneJ_x hn hmx hl ho)
 have HS := hid hS
 have HN := hid hn
 clear hl hS hn ho
 go_enter Tryz.func93, Tryz.ntmps93
 go_wp2_with fail
 refine HC.out.mono ?_
 rintro e w1 ⟨ao', c', rfl, hnew, k1, hnil⟩
 have HNil := hid hnil
 clear hnil
 have HNw := hid hnew
 have K1 := hid k1
 clear hnew k1
 rcases Nat.eq_zero_or_pos n with h0 | h0
 ·subst h0
  have hl0 : l = [] := List.length_eq_zero_iff.1 HN.out
  have HF : Hid (l.filter (fun x => !p x) = l) := by unfold Hid; rw [hl0]; rfl
  clear hl0
  go_wp2_with fail
  refine (delJ_nil gf lb ao' c' _).mono ?_
  rintro e w2 ⟨rfl, k2⟩
  have K2 := hid (K1.out.then_ (k2.low K1.out.1.size))
  have HL2 := hid (HNw.out.ls.below k2.1)
  clear k2
  go_wp2_with fail
  go_ret
  exact ⟨ao', 0, c', rfl, Nat.le_refl _, by rw [HF.out]; exact ⟨HNw.out.len, HL2.out, HNw.out.nc, HNw.out.cm, HNw.out.ok, HNw.out.fresh, fun h => absurd h (by omega)⟩, K2.out, HNil.out⟩
 ·obtain ⟨g, eg', hrow⟩ := HNw.out.row h0
  subst eg'
  have hfr : w.heap.size ≤ g := HNw.out.fresh g 0 _ rfl
  have HD := hid (delJ_c gf lb eg p hmx HNw.out.nc HNw.out.cm hrow (fun x u hu => HS.out x u (But.made_ K1.out hu K1.out.1.size (fun b hb => by have hb : b = g := hb; omega))))
  clear hrow
  go_wp2_with fail
  refine HD.out.mono ?_
  rintro e w2 ⟨m, rfl, hmn, k2, hrow2⟩
  have K2 : Hid (Made w.heap.size w w2) := But.made_ K1.out k2 K1.out.1.size (fun b hb => by have hb : b = g := hb; omega)
  have HR2 := hid hrow2
  clear k2 hrow2
  go_wp2_with fail
  go_ret
  exact ⟨_, m, c', rfl, hmn, ⟨HR2.out.1, HR2.out.lsT, Nat.le_trans hmn HNw.out.nc, HNw.out.cm, .inr ⟨_, _, rfl⟩, fun b off s e => (by cases e; exact hfr), fun _ => ⟨g, rfl, HR2.out⟩⟩, K2.out, fun e => absurd (HNil.out e).1 (by simp)⟩
theorem withoutJ_c (gf : Nat) (lb : Array Value) (eg : ∀ args w, (callFunc gf args).run Tryz.prog w = .ok (.enter gf args) w) (p : Jt → Bool) {l : List Jt} {ao : Option Addr} {n c : Nat} {w : World} (hn : l.length = n) (hmx : n ≤ 1073741824) (hl : LsT encJ 8 w ao l) (ho : SlOk ao n c)
  (hS : ∀ x u, Made w.heap.size w u → Calls Tryz.prog gf (#[jtV x] ++ lb) u fun e v => e = .returned (.bool (p x)) ∧ Made u.heap.size u v) :
  Calls Tryz.prog 93 #[.slice ao n c, .func (.func gf) #[] lb] w fun e v => ∃ ao' m c', e = .returned (.slice ao' m c') ∧ m ≤ n ∧ NewL encJ 8 36 w v ao' m c' (l.filter fun x => !p x) ∧ Made w.heap.size w v :=
 (withoutJ_x gf lb eg p hn hmx hl ho hS).mono fun _ _ ⟨a, m, c, h1, h2, h3, h4, _⟩ => ⟨a, m, c, h1, h2, h3, h4⟩
theorem delC_c (gf : Nat) (lb : Array Value) (eg : ∀ args w, (callFunc gf args).run Tryz.prog w = .ok (.enter gf args) w) (p : Ct → Bool) {l : List Ct} {g n cap : Nat} {w : World} (hmx : n ≤ 1073741824) (hcap : n ≤ cap) (hcm : cap ≤ maxLen) (hrow : RowL encC 5 w g 118 n l)
  (hS : ∀ x u, But (fun b => b = g) w u → Calls Tryz.prog gf (#[ctV x] ++ lb) u fun e v => e = .returned (.bool (p x)) ∧ Made u.heap.size u v) :
  Calls Tryz.prog 126 #[.slice (some ⟨g, 0, none⟩) n cap, .func (.func gf) #[] lb] w fun e v => ∃ m, e = .returned (.slice (some ⟨g, 0, none⟩) m cap) ∧ m ≤ n ∧ But (fun b => b = g) w v ∧ RowL encC 5 v g 118 m (l.filter fun x => !p x) := by
 unfold maxLen at hcm
 have hn : l.length = n := hrow.1
 have HN := hid hn
 obtain ⟨i0, hi, hz0, hz1, hz2⟩ := info_parts infoC
 have HCL : Hid (∀ (W : World) (i : Nat) (dk : List Ct), RowL encC 5 W g 118 n dk → i < n → ∃ vs, ∀ ty, (Builtin.clear_ #[29] ty #[.slice (some ⟨g, i * 5, none⟩) (n - i) (cap - i)]).run Tryz.prog W = .ok (.tuple #[]) (W.setCells g (i * 5) vs)) := fun W i dk hd hi' => by
  refine run_clear_row2 (P := Tryz.prog) W 29 118 (.agg #[.int .i64 0, .int .i64 0, .int .i64 0, .int .i64 0, .int .i64 0]) Tryz.underlying29 i0 hi hz0 (by decide) g (i * 5) (n - i) (cap - i) (by omega) (by decide) (fun j hj => ?_) (fun j hj => hd.free _)
  have hj : j < (n - i) * 5 := hj
  refine hd.is_ ?_
  have e : n * 5 = (n - i) * 5 + i * 5 := by rw [← Nat.add_mul]; congr 1; omega
  omega
 have HIF := hid (idxC_c gf lb eg Nil0 (fun _ _ => True) (hitF l p) (c := cap) (w := w) hn (by omega) hrow.lsT (fun _ => Offs.nil _) trivial
  (fun i x u hx hu _ => by
   rw [hitF_at hx]
   exact (hS x u hu.any).mono fun _ _ ⟨a, b⟩ => ⟨a, Made.but b, trivial⟩))
 have HP : Hid (∀ i x, l[i]? = some x → hitF l p i = p x) := fun i x hx => hitF_at hx
 have HR := hid hrow
 have HS := hid hS
 have lg : g < w.heap.size := hrow.here
 clear hi hz0 hz1 hz2 hn hrow hS
 go_enter Tryz.func126, Tryz.ntmps126
 go_wp2_with fail
 refine HIF.out.mono ?_
 rintro e w1 ⟨r, rfl, k1, h⟩
 have k1 := k1.made
 have HR1 := hid (HR.out.stays k1 HR.out.here)
 have K1 : Hid (But (fun b => b = g) w w1) := Made.but k1
 clear k1 HIF
 rcases h with ⟨rfl, hall, _⟩ | ⟨k0, hk0, rfl, ht, hall, _⟩
 ·have HF : Hid (l.filter (fun x => !p x) = l) := by
   unfold Hid
   rw [List.filter_eq_self]
   intro x hx
   obtain ⟨i, hi⟩ := List.mem_iff_getElem?.1 hx
   have h1 := hall i (by rw [← HN.out]; exact (List.getElem?_eq_some_iff.1 hi).1)
   rw [HP.out i x hi] at h1
   simp [h1]
  clear hall
  go_wp2_with fail
  go_ret
  exact ⟨n, rfl, Nat.le_refl _, K1.out, by rw [HF.out]; exact HR1.out⟩
 ·have hne : ((k0 : Int) == -1) = false := beq_eq_false_iff_ne.2 (by omega)
  obtain ⟨z, hz⟩ : ∃ a, l[k0]? = some a := ⟨_, List.getElem?_eq_getElem (by rw [HN.out]; exact hk0)⟩
  have HI : Hid (KInv p l (k0 + 1) k0 l) := by
   have hall' : ∀ j x, j < k0 → l[j]? = some x → p x = false := fun j x hj hx => by rw [← HP.out j x hx]; exact hall j hj
   have ht' : p z = true := by rw [← HP.out k0 z hz]; exact ht
   exact kinv_start hz hall' ht'
  clear ht hall hz
  go_upto_region 4 with fail
  go_wp2_with fail
  go_loopg [5, 6, 7] n (fun gg s5 s6 s7 wx => ∃ (i j : Nat) (dk : List Ct), s5 = .int .i64 (i : Nat) ∧ s6 = .int .i64 (j : Nat) ∧ i < j ∧ j ≤ n ∧ n - j ≤ gg ∧ Hid (But (fun b => b = g) w wx ∧ RowL encC 5 wx g 118 n dk ∧ KInv p l j i dk))
  case atStart => exact ⟨k0, k0 + 1, l, rfl, by go_num, by omega, by omega, by omega, K1.out, HR1.out, HI.out⟩
  case round =>
   obtain ⟨i, j, dk, rfl, rfl, hij, hjn, hgg, HB⟩ := hrel
   have hg : g < wr.heap.size := HB.out.2.1.here
   by_cases hlt : j < n
   ·obtain ⟨y, hy⟩ : ∃ a, l[j]? = some a := ⟨_, List.getElem?_eq_getElem (by rw [HN.out]; exact hlt)⟩
    have hyd : dk[j]? = some y := by rw [HB.out.2.2.at_ j (Nat.le_refl _)]; exact hy
    have hcells := (HB.out.2.1.lsB j y hyd).c5
    have HCall := hid (fun u (hu : But (fun b => b = g) w u) => HS.out y u hu)
    obtain ⟨q, hq⟩ : ∃ q, p y = q := ⟨_, rfl⟩
    rw [hq] at HCall
    have HY := hid hy
    have HQ := hid hq
    obtain ⟨xo, hxo⟩ : ∃ a, dk[i]? = some a := ⟨_, List.getElem?_eq_getElem (by rw [HB.out.2.1.1]; omega)⟩
    have HXO := hid hxo
    clear hy hyd hq hxo
    obtain ⟨y0, y1, y2, y3, y4⟩ := y
    obtain ⟨a0, a1, a2, a3, a4⟩ := hcells
    simp only [] at a0 a1 a2 a3 a4 HCall
    simp only [Nat.zero_add] at a0 a1 a2 a3 a4
    obtain ⟨W2, eW⟩ : ∃ W, W = wr.alloc (.cells #[.int .i64 y0, .int .i64 y1, .int .i64 y2, .int .i64 y3, .int .i64 y4] 118) := ⟨_, rfl⟩
    have k2 : Made wr.heap.size wr W2 := by rw [eW]; exact (Made.rfl_ _ _).cells (Nat.le_refl _) _ _
    have HV : Hid (Has W2 wr.heap.size 118 #[.int .i64 y0, .int .i64 y1, .int .i64 y2, .int .i64 y3, .int .i64 y4]) := by unfold Hid; rw [eW]; exact has_new _ _ _
    have K2 : Hid (But (fun b => b = g) w W2) := HB.out.1.then_ (Made.but k2)
    have HR2 := hid (HB.out.2.1.stays k2 hg)
    have hgne : ¬ g = wr.heap.size := by omega
    obtain ⟨gv, egv⟩ : ∃ gv, wr.heap.size = gv := ⟨_, rfl⟩
    rw [egv] at HV
    have HKI := hid HB.out.2.2
    clear k2 HB
    go_upto_region 8 with fail
    rw [← eW]
    clear eW
    try rw [egv]
    have v0 := HV.out.at_ 0
    have v1 := HV.out.at_ 1
    have v2 := HV.out.at_ 2
    have v3 := HV.out.at_ 3
    have v4 := HV.out.at_ 4
    simp at v0 v1 v2 v3 v4
    have lv : gv < W2.heap.size := HV.out.here
    clear a0 a1 a2 a3 a4
    go_wp2_with fail
    refine (HCall.out _ K2.out).mono ?_
    rintro e W3 ⟨rfl, k3⟩
    have K3 : Hid (But (fun b => b = g) w W3) := K2.out.then_ (Made.but k3)
    have HR3 := hid (HR2.out.stays k3 HR2.out.here)
    have HV3 := hid (HV.out.stays k3 HV.out.here)
    clear k3 lv v0 v1 v2 v3 v4
    cases q with
    | true =>
     go_wp2_with fail
     go_roundg (n - (j + 1))
     case measure => omega
     case rel => exact ⟨i, j + 1, dk, rfl, by go_num, by omega, by omega, Nat.le_refl _, K3.out, HR3.out, HKI.out.skip HY.out HQ.out⟩
    | false =>
     have hcells := (HR3.out.lsB i xo HXO.out).c5
     obtain ⟨b0, b1, b2, b3, b4⟩ := hcells
     simp only [Nat.zero_add] at b0 b1 b2 b3 b4
     have zf : ∀ o, W3.frozen? ⟨g, o, none⟩ = false := HR3.out.free
     have hin : i < n := by omega
     have v0 := HV3.out.at_ 0
     have v1 := HV3.out.at_ 1
     have v2 := HV3.out.at_ 2
     have v3 := HV3.out.at_ 3
     have v4 := HV3.out.at_ 4
     simp at v0 v1 v2 v3 v4
     have lv : gv < W3.heap.size := HV3.out.here
     have lg3 : g < W3.heap.size := HR3.out.here
     go_upto_region 10 with fail
     obtain ⟨W4, eW⟩ : ∃ W, W = (((((W3.setCell ⟨g, i * 5, none⟩ (.int .i64 y0)).setCell ⟨g, i * 5 + 1, none⟩ (.int .i64 y1)).setCell ⟨g, i * 5 + 2, none⟩ (.int .i64 y2)).setCell ⟨g, i * 5 + 3, none⟩ (.int .i64 y3)).setCell ⟨g, i * 5 + 4, none⟩ (.int .i64 y4)) := ⟨_, rfl⟩
     have eW' : W4 = W3.setCells g (i * 5) (encC ⟨y0, y1, y2, y3, y4⟩) := eW
     have HR4 := hid (HR3.out.set encC_len hin ⟨y0, y1, y2, y3, y4⟩)
     have K4 : Hid (But (fun b => b = g) w W4) := by unfold Hid; rw [eW']; exact But.setCells (X := fun b => b = g) (g := g) rfl _ _ K3.out
     rw [← eW'] at HR4
     rw [← eW]
     clear eW eW' zf lv lg3 b0 b1 b2 b3 b4 v0 v1 v2 v3 v4
     go_wp2_with fail
     go_roundg (n - (j + 1))
     case measure => omega
     case rel => exact ⟨i + 1, j + 1, dk.set i ⟨y0, y1, y2, y3, y4⟩, by go_num, by go_num, by omega, by omega, Nat.le_refl _, K4.out, HR4.out, HKI.out.keep HY.out HQ.out (by rw [HR3.out.1]; exact hin) (Nat.le_of_lt hij)⟩
   ·obtain rfl : j = n := by omega
    obtain ⟨vs, hcl⟩ := HCL.out wr i dk HB.out.2.1 hij
    have HR5 := hid (HB.out.2.1.cut encC_len (Nat.le_of_lt hij) vs)
    have K5 : Hid (But (fun b => b = g) w (wr.setCells g (i * 5) vs)) := But.setCells (X := fun b => b = g) (g := g) rfl _ _ HB.out.1
    have HF : Hid (dk.take i = l.filter fun x => !p x) := by
     have e1 : l.take j = l := List.take_of_length_le (by rw [HN.out]; exact Nat.le_refl _)
     have h1 := HB.out.2.2.fst
     rw [e1] at h1
     exact h1
    go_wp2_with fail
    go_ret
    exact ⟨i, rfl, Nat.le_of_lt hij, K5.out, by rw [← HF.out]; exact HR5.out⟩
theorem idxC_nil (g : Nat) (lb : Array Value) (ao : Option Addr) (c : Nat) (w : World) : Calls Tryz.prog 144 #[.slice ao 0 c, .func (.func g) #[] lb] w fun e v => e = .returned (.int .i64 (-1)) ∧ w = v := by
 go_enter Tryz.func144, Tryz.ntmps144
 go_wp2_with fail
 go_loopg [5, 8] 0 (fun gg s5 s8 wx => s8 = .int .i64 0 ∧ wx = w)
 case atStart => exact ⟨rfl, rfl⟩
 case round =>
  obtain ⟨rfl, rfl⟩ := hrel
  go_wp2_with fail
  go_ret
  exact ⟨rfl, rfl⟩
theorem delC_nil (gf : Nat) (lb : Array Value) (ao : Option Addr) (c : Nat) (w : World) : Calls Tryz.prog 126 #[.slice ao 0 c, .func (.func gf) #[] lb] w fun e v => e = .returned (.slice ao 0 c) ∧ Made w.heap.size w v := by
 have HIF := hid (idxC_nil gf lb ao c)
 go_enter Tryz.func126, Tryz.ntmps126
 go_wp2_with fail
 refine (HIF.out _).mono ?_
 rintro e w1 ⟨rfl, rfl⟩
 go_wp2_with fail
 go_ret
 exact ⟨rfl, Made.rfl_ _ _⟩
theorem withoutC_x (gf : Nat) (lb : Array Value) (eg : ∀ args w, (callFunc gf args).run Tryz.prog w = .ok (.enter gf args) w) (p : Ct → Bool) {l : List Ct} {ao : Option Addr} {n c : Nat} {w : World} (hn : l.length = n) (hmx : n ≤ 1073741824) (hl : LsT encC 5 w ao l) (ho : SlOk ao n c)
  (hS : ∀ x u, Made w.heap.size w u → Calls Tryz.prog gf (#[ctV x] ++ lb) u fun e v => e = .returned (.bool (p x)) ∧ Made u.heap.size u v) :
  Calls Tryz.prog 95 #[.slice ao n c, .func (.func gf) #[] lb] w fun e v => ∃ ao' m c', e = .returned (.slice ao' m c') ∧ m ≤ n ∧ NewL encC 5 118 w v ao' m c' (l.filter fun x => !p x) ∧ Made w.heap.size w v ∧ (ao = none → ao' = none ∧ c' = 0) := by
 have HC := hid (cloneC_x hn hmx hl ho)
 have HS := hid hS
 have HN := hid hn
 clear hl hS hn ho
 go_enter Tryz.func95, Tryz.ntmps95
 go_wp2_with fail
 refine HC.out.mono ?_
 rintro e w1 ⟨ao', c', rfl, hnew, k1, hnil⟩
 have HNil := hid hnil
 clear hnil
 have HNw := hid hnew
 have K1 := hid k1
 clear hnew k1
 rcases Nat.eq_zero_or_pos n with h0 | h0
 ·subst h0
  have hl0 : l = [] := List.length_eq_zero_iff.1 HN.out
  have HF : Hid (l.filter (fun x => !p x) = l) := by unfold Hid; rw [hl0]; rfl
  clear hl0
  go_wp2_with fail
  refine (delC_nil gf lb ao' c' _).mono ?_
  rintro e w2 ⟨rfl, k2⟩
  have K2 := hid (K1.out.then_ (k2.low K1.out.1.size))
  have HL2 := hid (HNw.out.ls.below k2.1)
  clear k2
  go_wp2_with fail
  go_ret
  exact ⟨ao', 0, c', rfl, Nat.le_refl _, by rw [HF.out]; exact ⟨HNw.out.len, HL2.out, HNw.out.nc, HNw.out.cm, HNw.out.ok, HNw.out.fresh, fun h => absurd h (by omega)⟩, K2.out, HNil.out⟩
 ·obtain ⟨g, eg', hrow⟩ := HNw.out.row h0
  subst eg'
  have hfr : w.heap.size ≤ g := HNw.out.fresh g 0 _ rfl
  have HD := hid (delC_c gf lb eg p hmx HNw.out.nc HNw.out.cm hrow (fun x u hu => HS.out x u (But.made_ K1.out hu K1.out.1.size (fun b hb => by have hb : b = g := hb; omega))))
  clear hrow
  go_wp2_with fail
  refine HD.out.mono ?_
  rintro e w2 ⟨m, rfl, hmn, k2, hrow2⟩
  have K2 : Hid (Made w.heap.size w w2) := But.made_ K1.out k2 K1.out.1.size (fun b hb => by have hb : b = g := hb; omega)
  have HR2 := hid hrow2
  clear k2 hrow2
  go_wp2_with fail
  go_ret
  exact ⟨_, m, c', rfl, hmn, ⟨HR2.out.1, HR2.out.lsT, Nat.le_trans hmn HNw.out.nc, HNw.out.cm, .inr ⟨_, _, rfl⟩, fun b off s e => (by cases e; exact hfr), fun _ => ⟨g, rfl, HR2.out⟩⟩, K2.out, fun e => absurd (HNil.out e).1 (by simp)⟩
end Go.Proofs.YtjhcejmfiekjgaaGreat.Fx
/- World variables; copies of shapes. -/
namespace Go.Proofs.YtjhcejmfiekjgaaGreat.Fx
open Go.ChangeShapes Go.WideShapes Go.ChangeAt Go.RowKit
set_option linter.unusedVariables false
theorem set_size (w : World) (p : Addr) (u : Value) : (w.setCell p u).heap.size = w.heap.size := by simp [World.setCell]
theorem cloneV_nil (c : Nat) (w : World) (ao : Option Addr) (ho : (ao = none ∧ c = 0) ∨ ∃ a, ao = some a) : Calls Tryz.prog 77 #[.slice ao 0 c] w fun e v => e = .returned (.slice (ao.map fun _ => ⟨w.heap.size, 0, none⟩) 0 0) ∧ (∀ a, ao = some a → w.heap.size < v.heap.size) ∧ Made w.heap.size w v := by
 rcases ho with ⟨rfl, rfl⟩ | ⟨a, rfl⟩
 ·have q := fun W : World => Lib.run_eql_slice_nil (P := Tryz.prog) W 39 26 none 0 0 0 0 Tryz.underlying39
  go_enter Tryz.func77, Tryz.ntmps77
  go_wp2_with fail
  go_ret
  exact ⟨rfl, fun a e => (by cases e), Made.rfl_ _ _⟩
 ·have q := fun W : World => Lib.run_eql_slice_nil (P := Tryz.prog) W 39 26 (some a) 0 c 0 0 Tryz.underlying39
  go_enter Tryz.func77, Tryz.ntmps77
  go_wp2_with fail
  go_ret
  exact ⟨rfl, fun _ _ => (by simp), (Made.rfl_ _ _).cells (Nat.le_refl _) _ _⟩
theorem copyV_nil (K R : Int) (c : Nat) (w : World) (ao : Option Addr) (ho : (ao = none ∧ c = 0) ∨ ∃ a, ao = some a) : Calls Tryz.prog 40 #[shapeV K R (.slice ao 0 c)] w fun e v => e = .returned (shapeV K R (.slice (ao.map fun _ => ⟨w.heap.size + 2, 0, none⟩) 0 0)) ∧ (w.heap.size + 2 ≤ v.heap.size ∧ ∀ a, ao = some a → w.heap.size + 2 < v.heap.size) ∧ Made w.heap.size w v := by
 have HC := hid (fun w => cloneV_nil c w ao ho)
 clear ho
 obtain ⟨s, es⟩ : ∃ s, (ao.map fun _ => (⟨w.heap.size + 2, 0, none⟩ : Addr)) = s := ⟨_, rfl⟩
 rw [es]
 obtain ⟨W, eW⟩ : ∃ W, W = (w.alloc (.cells #[.int .i64 K, .int .i64 R, .slice ao 0 c] 41)).alloc (.cells #[.int .i64 0, .int .i64 0, .slice none 0 0] 41) := ⟨_, rfl⟩
 have hA : Has W w.heap.size 41 #[.int .i64 K, .int .i64 R, .slice ao 0 c] := by rw [eW]; exact (has_new _ _ _).more _
 have hB : Has W (w.heap.size + 1) 41 #[.int .i64 0, .int .i64 0, .slice none 0 0] := by rw [eW]; exact has_nxt' _ _ _ _
 have kW : Made w.heap.size w W := by rw [eW]; exact ((Made.rfl_ _ _).cells (Nat.le_refl _) _ _).cells (by simp) _ _
 have hsz : W.heap.size = w.heap.size + 2 := by rw [eW]; simp
 have HC := HC.out W
 rw [hsz, es] at HC
 have HCC := hid HC
 obtain ⟨g0, eg0⟩ : ∃ g, w.heap.size = g := ⟨_, rfl⟩
 obtain ⟨g1, eg1⟩ : ∃ g, g0 + 1 = g := ⟨_, rfl⟩
 have HA := hid hA; have HB := hid hB; have KW := hid kW
 rw [eg0] at HA
 rw [eg0, eg1] at HB
 have a0 := HA.out.at_ 0
 have a1 := HA.out.at_ 1
 have a2 := HA.out.at_ 2
 simp at a0 a1 a2
 have l0 : g0 < W.heap.size := HA.out.here
 have HSZ := hid hsz
 clear hA hB kW hsz HC es
 go_enter Tryz.func40, Tryz.ntmps40
 go_upto_region 1 with fail
 rw [← eW]
 clear eW
 try rw [eg0]
 try rw [eg1]
 go_wp2_with fail
 refine HCC.out.mono ?_
 rintro e w1 ⟨rfl, hs1, k1⟩
 have k1 : Made W.heap.size W w1 := by rw [HSZ.out]; exact k1
 have hA := HA.out.stays k1 HA.out.here
 have hB := HB.out.stays k1 HB.out.here
 have K1 := hid (KW.out.then_ (k1.low KW.out.1.size))
 have HSZ1 : Hid (w.heap.size + 2 ≤ w1.heap.size ∧ ∀ a, ao = some a → w.heap.size + 2 < w1.heap.size) := ⟨by rw [← HSZ.out]; exact k1.1.size, hs1⟩
 clear hs1
 have HA1 := hid hA; have HB1 := hid hB
 clear a0 a1 a2 l0 hA hB k1 HA HB
 have a0 := HA1.out.at_ 0
 have a1 := HA1.out.at_ 1
 have a2 := HA1.out.at_ 2
 simp at a0 a1 a2
 have l0 : g0 < w1.heap.size := HA1.out.here
 have f2 : w1.frozen? ⟨g0, 2, none⟩ = false := HA1.out.free 2
 have b0 := HB1.out.at_ 0
 have b1 := HB1.out.at_ 1
 have b2 := HB1.out.at_ 2
 simp at b0 b1 b2
 have l1 : g1 < w1.heap.size := HB1.out.here
 have fb : ∀ i, w1.frozen? ⟨g1, i, none⟩ = false := HB1.out.free
 have hne : ¬ g0 = g1 := by omega
 have hne' : ¬ g1 = g0 := by omega
 go_upto_region 2 with fail
 obtain ⟨V, eV⟩ : ∃ V, V = w1.setCell ⟨g0, 2, none⟩ (.slice s 0 0) := ⟨_, rfl⟩
 have HAV : Hid (Has V g0 41 #[.int .i64 K, .int .i64 R, .slice s 0 0]) := by unfold Hid; rw [eV]; exact HA1.out.put 2 _
 have HBV : Hid (Has V g1 41 #[.int .i64 0, .int .i64 0, .slice none 0 0]) := by unfold Hid; rw [eV]; exact HB1.out.other _ hne' _
 have KV : Hid (Made w.heap.size w V) := by unfold Hid; rw [eV]; exact K1.out.put (by rw [eg0]; exact Nat.le_refl _) _
 have HSV : Hid (w.heap.size + 2 ≤ V.heap.size ∧ ∀ a, ao = some a → w.heap.size + 2 < V.heap.size) := by unfold Hid; rw [eV, set_size]; exact HSZ1.out
 rw [← eV]
 clear eV a0 a1 a2 l0 f2 b0 b1 b2 l1 fb
 have a0 := HAV.out.at_ 0
 have a1 := HAV.out.at_ 1
 have a2 := HAV.out.at_ 2
 simp at a0 a1 a2
 have l0 : g0 < V.heap.size := HAV.out.here
 have b0 := HBV.out.at_ 0
 have b1 := HBV.out.at_ 1
 have b2 := HBV.out.at_ 2
 simp at b0 b1 b2
 have l1 : g1 < V.heap.size := HBV.out.here
 have fb : ∀ i, V.frozen? ⟨g1, i, none⟩ = false := HBV.out.free
 go_wp2_with fail
 obtain ⟨U, eU⟩ : ∃ U, U = ((V.setCell ⟨g1, 0, none⟩ (.int .i64 K)).setCell ⟨g1, 1, none⟩ (.int .i64 R)).setCell ⟨g1, 2, none⟩ (.slice s 0 0) := ⟨_, rfl⟩
 have hU : Has U g1 41 #[.int .i64 K, .int .i64 R, .slice s 0 0] := by rw [eU]; exact ((HBV.out.put 0 _).put 1 _).put 2 _
 have hw1 : w.heap.size ≤ g1 := by omega
 have kU : Made w.heap.size w U := by rw [eU]; exact ((KV.out.put hw1 _).put hw1 _).put hw1 _
 have hsU : w.heap.size + 2 ≤ U.heap.size ∧ ∀ a, ao = some a → w.heap.size + 2 < U.heap.size := by rw [eU, set_size, set_size, set_size]; exact HSV.out
 rw [← eU]
 have q0 := hU.at_ 0
 have q1 := hU.at_ 1
 have q2 := hU.at_ 2
 simp at q0 q1 q2
 exact bodyPost_ret (v := shapeV K R (.slice s 0 0)) (by simp [results, Tryz.results40, go_sem, q0, q1, q2]) rfl ⟨rfl, hsU, kU⟩
def CopyW (ao : Nat → Option Addr) (ac : Nat → Nat) (n : Nat) : Prop := ((∀ g, ao g = none) ∧ n = 0 ∧ ∀ e, ac e = 0) ∨ ((∀ g, ao g = some ⟨g, 0, none⟩) ∧ ∀ e, n ≤ ac e ∨ ac e = e)
def CornersAt (w : World) (ao : Option Addr) (g n : Nat) (f : Cs) : Prop := Sl w ao n f ∧ (0 < n → Row w g 26 n f)
theorem CornersAt.kept {w v : World} {ao : Option Addr} {g n : Nat} {f : Cs} (h : CornersAt w ao g n f) (k : Made w.heap.size w v) : CornersAt v ao g n f :=
 ⟨fun hn => by obtain ⟨b, off, e, hp⟩ := h.1 hn; exact ⟨b, off, e, hp.kept k⟩, fun hn => (h.2 hn).kept k⟩
theorem copyV_c (K R : Int) (ao : Option Addr) (n cap : Nat) (f : Cs) (h8 : n ≤ 8) (ho : (ao = none ∧ n = 0 ∧ cap = 0) ∨ ∃ a, ao = some a) :
  ∃ ao' ac, CopyW ao' ac n ∧ ∀ w, Sl w ao n f → Calls Tryz.prog 40 #[shapeV K R (.slice ao n cap)] w fun e v => ∃ g e', e = .returned (shapeV K R (.slice (ao' g) n (ac e'))) ∧ w.heap.size ≤ g ∧ g < v.heap.size ∧ CornersAt v (ao' g) g n f ∧ Made w.heap.size w v := by
 rcases Nat.eq_zero_or_pos n with h0 | h0
 ·subst h0
  rcases ho with ⟨rfl, _, rfl⟩ | ⟨a, rfl⟩
  ·refine ⟨fun _ => none, fun _ => 0, .inl ⟨fun _ => rfl, rfl, fun _ => rfl⟩, fun w hs => (copyV_nil K R 0 w none (.inl ⟨rfl, rfl⟩)).mono ?_⟩
   rintro e v ⟨rfl, hsz, k⟩
   exact ⟨w.heap.size, 0, rfl, Nat.le_refl _, by have := hsz.1; omega, ⟨fun h => absurd h (by omega), fun h => absurd h (by omega)⟩, k⟩
  ·refine ⟨fun g => some ⟨g, 0, none⟩, fun _ => 0, .inr ⟨fun _ => rfl, fun _ => .inl (Nat.le_refl _)⟩, fun w hs => (copyV_nil K R cap w (some a) (.inr ⟨a, rfl⟩)).mono ?_⟩
   rintro e v ⟨rfl, hsz, k⟩
   exact ⟨w.heap.size + 2, 0, rfl, by omega, hsz.2 a rfl, ⟨fun h => absurd h (by omega), fun h => absurd h (by omega)⟩, k⟩
 ·refine ⟨fun g => some ⟨g, 0, none⟩, fun e => e, .inr ⟨fun _ => rfl, fun _ => .inr rfl⟩, fun w hs => ?_⟩
  obtain ⟨b, off, rfl, hp⟩ := hs h0
  refine (copy_is K R b off n cap f w h0 h8 hp).mono ?_
  rintro e v ⟨g, c, rfl, hg, hr, k⟩
  exact ⟨g, c, rfl, hg, hr.here, ⟨fun _ => ⟨g, 0, rfl, hr.pts⟩, fun _ => hr⟩, k⟩
end Go.Proofs.YtjhcejmfiekjgaaGreat.Fx