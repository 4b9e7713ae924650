/- OtJ OuW -/
import Derived.Test.YtjecadafjnbijaaGreatPf13
import Derived.Test.YtjecadafjnbijaaGreatPf18
import Derived.Test.YtjecadafjnbijaaGreatPf20
import Derived.Test.YtjecadafjnbijaaGreatPf21
import Derived.Maps.AppendAt
import Derived.Lib.SmallJoins
import Derived.Lib.AppendZeros
set_option maxRecDepth 100000
set_option maxHeartbeats 64000000
/- The statements' Orders of deeds. -/
namespace Go.Proofs.YtjecadafjnbijaaGreat.Fx
open Go.ChangeShapes Go.WideShapes Go.ChangeAt Go.RowKit
set_option linter.unusedVariables false
theorem infoO : (Tryz.prog.info? 49).map (fun i => (i.zero, i.size, i.bytes)) = some (some (.agg #[.int .i64 0, .int .i64 0, .int .i64 0, .int .i64 0, .int .i64 0, .int .i64 0, .int .i64 0, .int .i64 0, .int .i64 0, .int .i64 0, .int .i64 0, .int .i64 0, .int .i64 0, .int .i64 0, .slice none 0 0]), 15, 136) := by kernel_rfl
theorem wpList_append_at {P : Program} {w : World} {ops : Array Oper} {rest : List Oper} {o : Oper} {a : Act} {Q : Exit → Act → World → Prop} (hgd : o.guard = none) (s x : Operand) (t : TypeId)
  (ho : o.op = .call { callee := .builtin .append, args := #[s, x], argTypes := #[t, t] })
  (base : Nat) (e : TypeId) (i : TypeInfo) (z : Value) (size bytes : Nat) (ht : P.underlying t = some (.slice e)) (hi : P.info? e = some i) (hz : i.zero = some z)
  (hsize : i.size = size) (hby : i.bytes = bytes) (hzs : z.cells.size = size) (hsz : 0 < size)
  (v : Value) (n : Nat) (xs : List Value) (hs : a.eval s = v) (hown : w.ownsRow base e size v n xs)
  (ad : Addr) (m c : Nat) (news : List Value) (hx : a.eval x = .slice (some ad) m c) (hl : news.length = m * size) (hnews : ∀ j u, news[j]? = some u → w.cell? (ad.add j) = some u) (h1 : ∀ u ∈ news, u.oneCell' = true)
  (h63 : n + m ≤ maxLen) (hbytes : (n + m) * bytes ≤ 140737488355328) (hbase : base ≤ w.heap.size) (hm : 0 < m)
  (h : ∀ v' w', w'.ownsRow base e size v' (n + m) (xs ++ news) → But (fun b => some b = v.ownBlock) w w' → (v'.ownBlock = v.ownBlock ∨ v'.ownBlock = some w.heap.size) → wpList P ops Q rest (a.put o.dst v') w') : wpList P ops Q (o :: rest) a w := by
 refine wpList_plain hgd fun _ hK => ?_
 obtain ⟨v', w', hr, h2, h3, _, h5⟩ := run_append_own_at (P := P) (w := w) base t o.type e i z size bytes ht hi hz hsize hby hzs hsz v n xs hown ad m c news hl hnews h1 h63 hbytes hbase
 have hf := append_frozen (P := P) w base t o.type e i z size bytes ht hi hz hsize hby hsz v n xs hown ad m c news hl hnews h1 h63 hbytes hm hr
 have hb : But (fun b => some b = v.ownBlock) w w' := ⟨h3.os, h3.tape, h3.output, h3.size, fun b hb hx => h3.block b hb (fun e => hx (by rw [e])), hf⟩
 unfold Oper.wp execOp
 simp only [ho, resolve, invoke, builtin, Sem.run_bind, Sem.run_pure, Result.andThen_ok, List.map_toArray, List.map_cons, List.map_nil, hs, hx, hr]
 exact hK _ _ (h v' w' h2 hb h5)
def OffO (x : Value) (o : Or) : Prop := 0 < o.n → ∀ b off s, o.ao = some ⟨b, off, s⟩ → some b ≠ x.ownBlock
def OrOf (l : List De) (w : World) (o : Or) : Prop := OrI o ∧ (o.n ≤ 8 ∨ ∃ d ∈ l, o.n = d.rn) ∧ Sl w o.ao o.n o.f ∧ ((o.ao = none ∧ o.n = 0 ∧ o.c = 0) ∨ ∃ a, o.ao = some a)
end Go.Proofs.YtjecadafjnbijaaGreat.Fx
/- OrderFulls. -/
namespace Go.Proofs.YtjecadafjnbijaaGreat.Fx
open Go.ChangeShapes Go.WideShapes Go.ChangeAt Go.RowKit
set_option linter.unusedVariables false
theorem OrsAt.of_bare {w : World} {base : Nat} {x : Value} {L : List Or} (h : w.ownsRow base 49 15 x L.length (flatE encO L)) (hO : ∀ o ∈ L, OrI o ∧ o.n = 0) : ∃ ao c, x = .slice ao L.length c ∧ OrsAt w ao L := by
 have hb : ∀ o ∈ L, OrI o ∧ o.n ≤ 1073741824 ∧ Sl w o.ao o.n o.f := fun o ho => ⟨(hO o ho).1, by rw [(hO o ho).2]; omega, fun hn => absurd hn (by rw [(hO o ho).2]; omega)⟩
 rcases h.2 with ⟨e, h0⟩ | ⟨g, cap, cur, e, _⟩
 ·refine ⟨none, 0, by rw [e, h0], fun hn => by omega, hb⟩
 ·obtain ⟨ao, c, e2, hls⟩ := LsT.of_own encO_len h
  exact ⟨ao, c, e2, hls.2.1, hb⟩
theorem remO_i {i : Nat} (h : i < 1024) : OrI (remO i) ∧ (remO i).n = 0 := ⟨or_small _ rfl (fun z hz => by simp only [remO, List.mem_cons, List.not_mem_nil, or_false] at hz; omega), rfl⟩
theorem addO_i : OrI addO ∧ addO.n = 0 := ⟨or_small _ rfl (fun z hz => by simp only [addO, List.mem_cons, List.not_mem_nil, or_false] at hz; omega), rfl⟩
theorem app_none15 (w : World) (base : Nat) (ty : TypeId) (v : Value) (n : Nat) (xs : List Value) (hown : w.ownsRow base 49 15 v n xs) (ao : Option Addr) (c : Nat) : (Builtin.append_ #[45, 45] ty #[v, .slice ao 0 c]).run Tryz.prog w = .ok v w := by
 obtain ⟨i, hi, hz0, hz1, hz2⟩ := info_parts infoO
 have hf : (Builtin.firstCells i.size 0 (.slice ao 0 c)).run Tryz.prog w = .ok #[] w := by
  cases ao with
  | none => simp [Builtin.firstCells, Sem.run_pure]
  | some a => exact run_firstCells_some w i.size 0 a 0 c [] (by simp) (by simp)
 have ht := Tryz.underlying45
 rcases hown.2 with ⟨rfl, rfl⟩ | ⟨g, cap, cur, rfl, _, _, hnc, _⟩
 ·simp [Builtin.append_, run_underlying ht, sizeOf, typeInfo, hi, Builtin.lenOf, hf]
 ·simp [Builtin.append_, run_underlying ht, sizeOf, typeInfo, hi, Builtin.lenOf, hf, hnc, storeCells]
theorem gok_x2 {G : PG} (h : GOk G) : I64 G.gx := by
 have := h.gx; unfold Inn at this; unfold I64; omega
theorem gok_y2 {G : PG} (h : GOk G) : I64 G.gy := by
 have := h.gy; unfold Inn at this; unfold I64; omega
theorem world_same2 {G : PG} {B' : List Bd} (h : GOk G) (e : EqBs G.P.B B') : WorldP G.tk G.P.nb G.P.nj G.gx G.gy B' G.P.J G.P.C := by
 have hi : ids G.P.B = ids B' := e.ids
 have hb : ∀ b' ∈ B', BodyP b' := fun b' hb' => by
  obtain ⟨i, hi'⟩ := List.mem_iff_getElem?.1 hb'
  have hl := (List.getElem?_eq_some_iff.1 hi').1
  obtain ⟨b, hb⟩ : ∃ b, G.P.B[i]? = some b := ⟨_, List.getElem?_eq_getElem (by rw [e.1]; exact hl)⟩
  have h1 := e.2 i b b' hb hi'
  exact body_same (b := b) ⟨rfl, h1.2⟩ (h.hB.all b (List.mem_of_getElem? hb))
 refine ⟨h.tk, h.gx, h.gy, ⟨by rw [← e.1]; exact h.hB.len, hb, by show NumP (ids B') _; rw [← hi]; exact h.hB.num⟩, ⟨h.hJ.len, fun j hj => ?_, h.hJ.num⟩, ⟨fun c hc => ?_, h.hC.up⟩⟩
 ·show JointP j ∧ j.a ∈ ids B' ∧ j.b ∈ ids B'
  rw [← hi]
  exact h.hJ.all j hj
 ·show c.a < c.b ∧ 0 ≤ c.key ∧ 0 ≤ c.n ∧ c.a ∈ ids B' ∧ c.b ∈ ids B'
  rw [← hi]
  exact h.hC.all c hc
theorem ofulls_walk (n : Int) (first : Bool) (w : World) (h0 : 0 ≤ n) (h1 : n ≤ 255) :
  Calls Tryz.prog 4 #[.int .u8 n, .bool first] w fun e v => e = .returned (.bool true) ∧ Below w.heap.size w v := by
 obtain ⟨iB, hiB, hb0, hb1, hb2⟩ := info_parts infoB
 have iHb := hid hiB; have iB0 := hid hb0; have iB1 := hid hb1; have iB2 := hid hb2
 obtain ⟨iO, hiO, hz0, hz1, hz2⟩ := info_parts infoO
 have iHi := hid hiO; have iH0 := hid hz0; have iH1 := hid hz1; have iH2 := hid hz2
 clear hiO hz0 hz1 hz2 hiB hb0 hb1 hb2
 go_enter Tryz.func4, Tryz.ntmps4
 go_wp2_with fail
 refine (fit10_c _).mono ?_
 rintro e w1 ⟨rfl, k1⟩
 have K1 := hid k1
 clear k1
 go_wp2_with fail
 refine (new_c _).mono ?_
 rintro e w2 ⟨rfl, k2⟩
 have K2 := hid (K1.out.then_ (k2.low K1.out.1.size))
 clear k2 K1
 go_upto_region 4 with fail
 obtain ⟨W3, e3⟩ : ∃ V, V = w2.alloc (.cells #[.int .i64 0, .int .i64 1, .int .i64 1, .int .i64 0, .int .i64 0, .slice none 0 0, .slice none 0 0, .slice none 0 0] 42) := ⟨_, rfl⟩
 have HW3 : Hid (Has W3 w2.heap.size 42 #[.int .i64 0, .int .i64 1, .int .i64 1, .int .i64 0, .int .i64 0, .slice none 0 0, .slice none 0 0, .slice none 0 0]) := by unfold Hid; rw [e3]; exact has_new _ _ _
 have M3 : Hid (Made w2.heap.size w2 W3) := by unfold Hid; rw [e3]; exact (Made.rfl_ _ _).cells (Nat.le_refl _) _ _
 have S3 : Hid (W3.heap.size = w2.heap.size + 1) := by unfold Hid; rw [e3]; simp
 have HS2 := hid K2.out.1.size
 obtain ⟨gw, egw⟩ : ∃ g, w2.heap.size = g := ⟨_, rfl⟩
 rw [egw] at HW3 M3 S3 HS2
 rw [← e3]
 clear e3
 try rw [egw]
 clear egw
 go_wp2_with fail
 go_loopg [16] 1024 (fun gg s16 wx => ∃ (i : Nat) (v5 : Value), i + gg = 1024 ∧ s16 = .int .i64 (i : Nat) ∧ Hid (Has wx gw 42 #[.int .i64 0, .int .i64 1, .int .i64 1, .int .i64 0, .int .i64 0, v5, .slice none 0 0, .slice none 0 0] ∧ wx.ownsRow (gw + 1) 35 11 v5 (circs i).length (flatE encB (circs i)) ∧ Made gw w2 wx ∧ gw + 1 ≤ wx.heap.size))
 case atStart => exact ⟨0, .slice none 0 0, by omega, by first | rfl | trivial, HW3.out, World.ownsRow_nil _ _ _ _, M3.out, Nat.le_of_eq S3.out.symm⟩
 case round =>
  obtain ⟨i, v5, hi, rfl, HH⟩ := hrel
  have HWx := hid HH.out.1
  have HOw := hid HH.out.2.1
  have HM := hid HH.out.2.2.1
  have HSz := hid HH.out.2.2.2
  clear HH
  by_cases hlt : i < 1024
  ·have c5 := HWx.out.at_ 5
   have f5 := HWx.out.free 5
   simp at c5
   have lw : gw < wr.heap.size := HWx.out.here
   obtain ⟨I1, eI⟩ : ∃ z : Int, (i : Int) + 1 = z := ⟨_, rfl⟩
   obtain ⟨X1, eX⟩ : ∃ z : Int, (i : Int) * 4 = z := ⟨_, rfl⟩
   obtain ⟨X2, eX2⟩ : ∃ z : Int, X1 * 4294967296 = z := ⟨_, rfl⟩
   have bX1 : 0 ≤ X1 ∧ X1 ≤ 4092 := by omega
   have bX2 : 0 ≤ X2 ∧ X2 ≤ 17575006175232 := by omega
   obtain ⟨bX10, bX11⟩ := bX1
   obtain ⟨bX20, bX21⟩ := bX2
   have HCi : Hid (encB (circB i) = [.int .i64 I1, .int .i64 X2, .int .i64 0, .int .i64 0, .int .i64 0, .int .i64 0, .int .i64 0, .int .i64 0, .int .i64 1, .int .i64 4294967296, .slice none 0 0]) := by
    unfold Hid circB
    rw [show (i : Int) * 17179869184 = X2 by omega, eI]
    rfl
   have HNb : Hid (Has (wr.alloc (.cells #[.int .i64 I1, .int .i64 X2, .int .i64 0, .int .i64 0, .int .i64 0, .int .i64 0, .int .i64 0, .int .i64 0, .int .i64 1, .int .i64 4294967296, .slice none 0 0] 35)) wr.heap.size 35 #[.int .i64 I1, .int .i64 X2, .int .i64 0, .int .i64 0, .int .i64 0, .int .i64 0, .int .i64 0, .int .i64 0, .int .i64 1, .int .i64 4294967296, .slice none 0 0]) := has_new _ _ _
   have HOa : Hid ((wr.alloc (.cells #[.int .i64 I1, .int .i64 X2, .int .i64 0, .int .i64 0, .int .i64 0, .int .i64 0, .int .i64 0, .int .i64 0, .int .i64 1, .int .i64 4294967296, .slice none 0 0] 35)).ownsRow (gw + 1) 35 11 v5 (circs i).length (flatE encB (circs i))) := HOw.out.alloc _
   have HCl : Hid ((circs i).length = i) := circs_len i
   have HS1 := hid (show gw + 1 ≤ (wr.alloc (.cells #[.int .i64 I1, .int .i64 X2, .int .i64 0, .int .i64 0, .int .i64 0, .int .i64 0, .int .i64 0, .int .i64 0, .int .i64 1, .int .i64 4294967296, .slice none 0 0] 35)).heap.size by have := HSz.out; simp; omega)
   have H1c := hid (fun v (hv : v ∈ [.int .i64 I1, .int .i64 X2, .int .i64 0, .int .i64 0, .int .i64 0, .int .i64 0, .int .i64 0, .int .i64 0, .int .i64 1, .int .i64 4294967296, .slice none 0 0]) => encB_one (circB i) v (by rw [HCi.out]; exact hv))
   go_wp2_with (at_builtin; refine wpList_append_at rfl (.tmp 20) (.tmp 29) 38 rfl (gw + 1) 35 iB (.agg #[.int .i64 0, .int .i64 0, .int .i64 0, .int .i64 0, .int .i64 0, .int .i64 0, .int .i64 0, .int .i64 0, .int .i64 0, .int .i64 0, .slice none 0 0]) 11 104 Tryz.underlying38 iHb.out iB0.out iB1.out iB2.out rfl (by decide) v5 (circs i).length (flatE encB (circs i)) rfl HOa.out ⟨wr.heap.size, 0, none⟩ 1 1 [.int .i64 I1, .int .i64 X2, .int .i64 0, .int .i64 0, .int .i64 0, .int .i64 0, .int .i64 0, .int .i64 0, .int .i64 1, .int .i64 4294967296, .slice none 0 0] rfl rfl (has_news HNb.out) H1c.out (by rw [HCl.out]; unfold maxLen; omega) (by rw [HCl.out]; omega) HS1.out (by omega) ?_)
   intro v6 w6 hown hbt hnx
   obtain ⟨g6, cap6, rfl⟩ := Go.Joins.ownsRow_form hown (by omega)
   have kb : But (fun b => some b = v5.ownBlock) wr w6 := (Made.but ((Made.rfl_ wr.heap.size wr).cells (Nat.le_refl _) _ _)).then_ hbt
   have hng : ¬ some gw = v5.ownBlock := fun e => by have := own_from HOw.out e; omega
   have HW6 := hid (HWx.out.but kb hng)
   have HO6 : Hid (w6.ownsRow (gw + 1) 35 11 (.slice (some ⟨g6, 0, none⟩) ((circs i).length + 1) cap6) (circs (i + 1)).length (flatE encB (circs (i + 1)))) := by
    unfold Hid
    rw [circs_next, List.length_append, ← flatE_snoc, HCi.out]
    exact hown
   have HM6 : Hid (Made gw w2 w6) := But.made_ HM.out kb (Nat.le_of_lt lw) (fun b hb => Nat.le_of_lt (own_from HOw.out hb))
   have HS6 : Hid (gw + 1 ≤ w6.heap.size) := Nat.le_trans HSz.out kb.size
   have f6 := HW6.out.free 5
   have c6 := HW6.out.at_ 5
   simp at c6
   clear hown hbt hnx kb hng c5 f5 eI eX eX2
   go_wp2_with fail
   go_roundg (1024 - (i + 1))
   case measure => omega
   case rel => exact ⟨i + 1, _, by omega, by go_num, HW6.out.put 5 _, ownsRow_setCell_below HO6.out (by show gw < gw + 1; omega) _, HM6.out.put (by show gw ≤ gw; omega) _, by simpa using HS6.out⟩
  ·have e : i = 1024 := by omega
   subst e
   have HL0 : Hid ((circs 1024).length = 1024) := circs_len 1024
   obtain ⟨ob, cb, ev5, hlt5⟩ := LsT.of_own encB_len HOw.out
   have hsl := HOw.out
   rw [ev5, HL0.out] at hsl
   have hso := own_SlOk hsl
   have hoff : ∀ b off s, ob = some ⟨b, off, s⟩ → gw < b := fun b off s e => by
    have := own_from hsl (g := b) (by rw [e]; rfl)
    omega
   rw [HL0.out] at ev5
   subst ev5
   have c1 := HWx.out.at_ 1
   have f1 := HWx.out.free 1
   simp at c1
   go_upto_region 10 with fail
   obtain ⟨W5, e5⟩ : ∃ V, V = wr.setCell ⟨gw, 1, none⟩ (.int .i64 1025) := ⟨_, rfl⟩
   have HW5 : Hid (Has W5 gw 42 #[.int .i64 0, .int .i64 1025, .int .i64 1, .int .i64 0, .int .i64 0, .slice ob 1024 cb, .slice none 0 0, .slice none 0 0]) := by unfold Hid; rw [e5]; exact HWx.out.put 1 _
   have M5 : Hid (Made gw w2 W5) := by unfold Hid; rw [e5]; exact HM.out.put (by show gw ≤ gw; omega) _
   have kb5 : But (fun b => b = gw) wr W5 := by rw [e5]; exact (But.rfl_ (fun b => b = gw) wr).put (p := ⟨gw, 1, none⟩) (.inl rfl) _
   have HL5 : Hid (WLs (fun b => b = gw) W5 ob cb (circs 1024) none 0 [] none 0 []) := by
    have h := ls_new (fun b => b = gw) W5
    have hof : Offs (fun b => b = gw) ob := fun b off s e hb => by have hb : b = gw := hb; have := hoff b off s e; omega
    exact ⟨⟨hlt5.2.1.but' kb5 (fun _ => hof), h.at_.lJ, h.at_.lC, fun b hb => by obtain ⟨i, hi, rfl⟩ := circs_mem hb; exact ⟨fun hn => absurd hn (Nat.lt_irrefl 0), circ_i hi⟩, h.at_.iJ, h.at_.iC⟩, by rw [HL0.out]; exact hso, h.okJ, h.okC, fun _ => hof, h.offJ, h.offC, fun b hb hn => by obtain ⟨i, hi, rfl⟩ := circs_mem hb; exact absurd hn (Nat.lt_irrefl 0), fun b hb => by obtain ⟨i, hi, rfl⟩ := circs_mem hb; exact .inl ⟨rfl, rfl, rfl⟩⟩
   rw [← e5]
   clear e5 kb5 hso hoff hsl hlt5 c1 f1 HWx HOw HM HSz
   have HRt := hid (wright_c (w := W5) 0 1025 1 0 0 ob none none 1024 cb 0 0 0 0 true (B := circs 1024) (J := []) (C := []) HL0.out (by omega) rfl (by omega) rfl (by omega) HL5.out.at_ i64_0 i64_0 ⟨fun _ => full_ok, fun _ => rfl⟩)
   have b0 := HW5.out.at_ 0
   have b1 := HW5.out.at_ 1
   have b2 := HW5.out.at_ 2
   have b3 := HW5.out.at_ 3
   have b4 := HW5.out.at_ 4
   have b5 := HW5.out.at_ 5
   have b6 := HW5.out.at_ 6
   have b7 := HW5.out.at_ 7
   simp at b0 b1 b2 b3 b4 b5 b6 b7
   have lw : gw < W5.heap.size := HW5.out.here
   go_wp2_with fail
   refine HRt.out.mono ?_
   rintro e w6 ⟨rfl, k6⟩
   have HW6 := hid (HW5.out.stays k6 HW5.out.here)
   have HL6 := hid (HL5.out.kept k6)
   have M6 : Hid (Made gw w2 w6) := M5.out.then_ (k6.low (Nat.le_of_lt HW5.out.here))
   clear k6 b0 b1 b2 b3 b4 b5 b6 b7 lw HRt HW5 HL5 M5
   go_upto_region 13 with fail
   obtain ⟨W7, e7⟩ : ∃ V, V = w6.alloc (.cells #[.int .i64 1, .int .i64 0, .int .i64 0, .int .i64 0, .int .i64 0, .int .i64 0, .int .i64 0, .int .i64 0, .int .i64 0, .int .i64 0, .int .i64 0, .int .i64 0, .int .i64 1, .int .i64 4294967296, .slice none 0 0] 49) := ⟨_, rfl⟩
   have kk7 : Made w6.heap.size w6 W7 := by rw [e7]; exact (Made.rfl_ _ _).cells (Nat.le_refl _) _ _
   have HA7 : Hid (Has W7 w6.heap.size 49 #[.int .i64 1, .int .i64 0, .int .i64 0, .int .i64 0, .int .i64 0, .int .i64 0, .int .i64 0, .int .i64 0, .int .i64 0, .int .i64 0, .int .i64 0, .int .i64 0, .int .i64 1, .int .i64 4294967296, .slice none 0 0]) := by unfold Hid; rw [e7]; exact has_new _ _ _
   have HW7 := hid (HW6.out.stays kk7 HW6.out.here)
   have HL7 := hid (HL6.out.kept kk7)
   have M7 : Hid (Made gw w2 W7) := M6.out.then_ (kk7.low (Nat.le_of_lt HW6.out.here))
   have hga : gw < w6.heap.size := HW6.out.here
   obtain ⟨ga, ega⟩ : ∃ g, w6.heap.size = g := ⟨_, rfl⟩
   rw [ega] at HA7 hga
   rw [← e7]
   clear e7 kk7 HW6 HL6 M6
   try rw [ega]
   clear ega
   obtain ⟨k, ek⟩ : ∃ k : Nat, n % 5 = (k : Int) := ⟨(n % 5).toNat, by omega⟩
   have hk4 : k ≤ 4 := by omega
   have ek2 : n.tmod 5 = (k : Int) := by rw [Int.tmod_eq_emod_of_nonneg h0]; exact ek
   have HSA := hid HA7.out.here
   go_wp2_with fail
   go_loopg [9, 43] k (fun gg s9 s43 wx => ∃ i : Nat, i + gg = k ∧ s43 = .int .i64 (i : Nat) ∧ Hid (wx.ownsRow W7.heap.size 49 15 s9 i (flatE encO ((List.range i).map remO)) ∧ Made W7.heap.size W7 wx))
   case atStart => exact ⟨0, by omega, by first | rfl | trivial, World.ownsRow_nil _ _ _ _, Made.rfl_ _ _⟩
   case round =>
    obtain ⟨i, hi, rfl, HH⟩ := hrel
    have HOw := hid HH.out.1
    have HM := hid HH.out.2
    clear HH
    by_cases hlt : i < k
    ·obtain ⟨I1, eI⟩ : ∃ z : Int, 1 + (i : Int) = z := ⟨_, rfl⟩
     have bI : 0 ≤ I1 ∧ I1 ≤ 5 := by omega
     obtain ⟨bI0, bI1⟩ := bI
     have HCi : Hid (encO (remO i) = [.int .i64 2, .int .i64 I1, .int .i64 0, .int .i64 0, .int .i64 0, .int .i64 0, .int .i64 0, .int .i64 0, .int .i64 0, .int .i64 0, .int .i64 0, .int .i64 0, .int .i64 0, .int .i64 0, .slice none 0 0]) := by
      unfold Hid remO
      rw [Int.add_comm, eI]
      rfl
     have HNb : Hid (Has (wr.alloc (.cells #[.int .i64 2, .int .i64 I1, .int .i64 0, .int .i64 0, .int .i64 0, .int .i64 0, .int .i64 0, .int .i64 0, .int .i64 0, .int .i64 0, .int .i64 0, .int .i64 0, .int .i64 0, .int .i64 0, .slice none 0 0] 49)) wr.heap.size 49 #[.int .i64 2, .int .i64 I1, .int .i64 0, .int .i64 0, .int .i64 0, .int .i64 0, .int .i64 0, .int .i64 0, .int .i64 0, .int .i64 0, .int .i64 0, .int .i64 0, .int .i64 0, .int .i64 0, .slice none 0 0]) := has_new _ _ _
     have HOa : Hid ((wr.alloc (.cells #[.int .i64 2, .int .i64 I1, .int .i64 0, .int .i64 0, .int .i64 0, .int .i64 0, .int .i64 0, .int .i64 0, .int .i64 0, .int .i64 0, .int .i64 0, .int .i64 0, .int .i64 0, .int .i64 0, .slice none 0 0] 49)).ownsRow W7.heap.size 49 15 u9 i (flatE encO ((List.range i).map remO))) := HOw.out.alloc _
     have hs5 := HM.out.1.size
     have H1c := hid (fun v (hv : v ∈ [.int .i64 2, .int .i64 I1, .int .i64 0, .int .i64 0, .int .i64 0, .int .i64 0, .int .i64 0, .int .i64 0, .int .i64 0, .int .i64 0, .int .i64 0, .int .i64 0, .int .i64 0, .int .i64 0, .slice none 0 0]) => encO_one (remO i) v (by rw [HCi.out]; exact hv))
     go_wp2_with (at_builtin; refine wpList_append_at rfl (.tmp 46) (.tmp 50) 45 rfl W7.heap.size 49 iO (.agg #[.int .i64 0, .int .i64 0, .int .i64 0, .int .i64 0, .int .i64 0, .int .i64 0, .int .i64 0, .int .i64 0, .int .i64 0, .int .i64 0, .int .i64 0, .int .i64 0, .int .i64 0, .int .i64 0, .slice none 0 0]) 15 136 Tryz.underlying45 iHi.out iH0.out iH1.out iH2.out rfl (by decide) u9 i (flatE encO ((List.range i).map remO)) rfl HOa.out ⟨wr.heap.size, 0, none⟩ 1 1 [.int .i64 2, .int .i64 I1, .int .i64 0, .int .i64 0, .int .i64 0, .int .i64 0, .int .i64 0, .int .i64 0, .int .i64 0, .int .i64 0, .int .i64 0, .int .i64 0, .int .i64 0, .int .i64 0, .slice none 0 0] rfl rfl (has_news HNb.out) H1c.out (by unfold maxLen; omega) (by omega) (by simp; omega) (by omega) ?_)
     intro v6 w6' hown hbt hnx
     have kb : But (fun b => some b = u9.ownBlock) wr w6' := (Made.but ((Made.rfl_ wr.heap.size wr).cells (Nat.le_refl _) _ _)).then_ hbt
     have HO6 : Hid (w6'.ownsRow W7.heap.size 49 15 v6 (i + 1) (flatE encO ((List.range (i + 1)).map remO))) := by
      unfold Hid
      rw [List.range_succ, List.map_append, List.map_cons, List.map_nil, ← flatE_snoc, HCi.out]
      exact hown
     have HM6 : Hid (Made W7.heap.size W7 w6') := But.made_ HM.out kb hs5 (fun b hb => own_from HOw.out hb)
     clear hown hbt hnx kb eI
     go_wp2_with fail
     go_roundg (k - (i + 1))
     case measure => omega
     case rel => exact ⟨i + 1, by omega, by go_num, HO6.out, HM6.out⟩
    ·have e : i = k := by omega
     subst e
     have HO8 := HOw
     have HM8 := HM
     clear HOw HM
     go_wp2_with fail
     go_loopg [9, 54] i (fun gg s9 s54 wx => ∃ j : Nat, j + gg = i ∧ s54 = .int .i64 (j : Nat) ∧ Hid (wx.ownsRow W7.heap.size 49 15 s9 (i + j) (flatE encO ((List.range i).map remO ++ List.replicate j addO)) ∧ Made W7.heap.size W7 wx))
     case atStart => exact ⟨0, by omega, by first | rfl | trivial, by rw [List.replicate_zero, List.append_nil]; exact HO8.out, HM8.out⟩
     case round =>
      obtain ⟨j, hj, rfl, HH⟩ := hrel
      have HOw := hid HH.out.1
      have HM := hid HH.out.2
      clear HH
      have HAr := hid (HA7.out.stays HM.out HA7.out.here)
      by_cases hlt : j < i
      ·have HNb : Hid (Has (wr.alloc (.cells #[.int .i64 1, .int .i64 0, .int .i64 0, .int .i64 0, .int .i64 0, .int .i64 0, .int .i64 0, .int .i64 0, .int .i64 0, .int .i64 0, .int .i64 0, .int .i64 0, .int .i64 1, .int .i64 4294967296, .slice none 0 0] 49)) wr.heap.size 49 #[.int .i64 1, .int .i64 0, .int .i64 0, .int .i64 0, .int .i64 0, .int .i64 0, .int .i64 0, .int .i64 0, .int .i64 0, .int .i64 0, .int .i64 0, .int .i64 0, .int .i64 1, .int .i64 4294967296, .slice none 0 0]) := has_new _ _ _
       have HOa : Hid ((wr.alloc (.cells #[.int .i64 1, .int .i64 0, .int .i64 0, .int .i64 0, .int .i64 0, .int .i64 0, .int .i64 0, .int .i64 0, .int .i64 0, .int .i64 0, .int .i64 0, .int .i64 0, .int .i64 1, .int .i64 4294967296, .slice none 0 0] 49)).ownsRow W7.heap.size 49 15 u9 (i + j) (flatE encO ((List.range i).map remO ++ List.replicate j addO))) := HOw.out.alloc _
       have hs5 := HM.out.1.size
       have x_0 := HAr.out.at_ 0
       have x_1 := HAr.out.at_ 1
       have x_2 := HAr.out.at_ 2
       have x_3 := HAr.out.at_ 3
       have x_4 := HAr.out.at_ 4
       have x_5 := HAr.out.at_ 5
       have x_6 := HAr.out.at_ 6
       have x_7 := HAr.out.at_ 7
       have x_8 := HAr.out.at_ 8
       have x_9 := HAr.out.at_ 9
       have x_10 := HAr.out.at_ 10
       have x_11 := HAr.out.at_ 11
       have x_12 := HAr.out.at_ 12
       have x_13 := HAr.out.at_ 13
       have x_14 := HAr.out.at_ 14
       simp at x_0 x_1 x_2 x_3 x_4 x_5 x_6 x_7 x_8 x_9 x_10 x_11 x_12 x_13 x_14
       have lx : ga < wr.heap.size := HAr.out.here
       go_wp2_with (at_builtin; refine wpList_append_at rfl (.tmp 56) (.tmp 58) 45 rfl W7.heap.size 49 iO (.agg #[.int .i64 0, .int .i64 0, .int .i64 0, .int .i64 0, .int .i64 0, .int .i64 0, .int .i64 0, .int .i64 0, .int .i64 0, .int .i64 0, .int .i64 0, .int .i64 0, .int .i64 0, .int .i64 0, .slice none 0 0]) 15 136 Tryz.underlying45 iHi.out iH0.out iH1.out iH2.out rfl (by decide) u9 (i + j) (flatE encO ((List.range i).map remO ++ List.replicate j addO)) rfl HOa.out ⟨wr.heap.size, 0, none⟩ 1 1 [.int .i64 1, .int .i64 0, .int .i64 0, .int .i64 0, .int .i64 0, .int .i64 0, .int .i64 0, .int .i64 0, .int .i64 0, .int .i64 0, .int .i64 0, .int .i64 0, .int .i64 1, .int .i64 4294967296, .slice none 0 0] rfl rfl (has_news HNb.out) (encO_one addO) (by unfold maxLen; omega) (by omega) (by simp; omega) (by omega) ?_)
       intro v6 w6' hown hbt hnx
       have kb : But (fun b => some b = u9.ownBlock) wr w6' := (Made.but ((Made.rfl_ wr.heap.size wr).cells (Nat.le_refl _) _ _)).then_ hbt
       have HO6 : Hid (w6'.ownsRow W7.heap.size 49 15 v6 (i + (j + 1)) (flatE encO ((List.range i).map remO ++ List.replicate (j + 1) addO))) := by
        unfold Hid
        rw [List.replicate_succ', ← List.append_assoc, ← flatE_snoc]
        exact hown
       have HM6 : Hid (Made W7.heap.size W7 w6') := But.made_ HM.out kb hs5 (fun b hb => own_from HOw.out hb)
       clear hown hbt hnx kb x_0 x_1 x_2 x_3 x_4 x_5 x_6 x_7 x_8 x_9 x_10 x_11 x_12 x_13 x_14 lx HNb HOa HAr
       go_wp2_with fail
       go_roundg (i - (j + 1))
       case measure => omega
       case rel => exact ⟨j + 1, by omega, by go_num, HO6.out, HM6.out⟩
      ·have e : j = i := by omega
       subst e
       have HO9 : Hid (wr.ownsRow W7.heap.size 49 15 u9 (j + j) (flatE encO (fullL j))) := HOw.out
       have M9 := HM
       have HA9 := HAr
       have HW9 := hid (HW7.out.stays HM.out HW7.out.here)
       have HL9 := hid (HL7.out.kept HM.out)
       clear HO8 HM8 HOw HM HAr
       go_upto_if 61 with fail
       go_cut [9] (fun s9 wx => ∃ (K : List Or) (ab : Option Addr) (c2 : Nat), s9 = .slice ab K.length c2 ∧ Hid (K = (if first = true then addO :: fullL j else fullL j)) ∧ Hid (OrsAt wx ab K ∧ Made W7.heap.size W7 wx))
       case first =>
        have hOI : ∀ o ∈ fullL j, OrI o ∧ o.n = 0 := fun o ho => by
         rcases List.mem_append.1 ho with ho | ho
         ·obtain ⟨i, hi, rfl⟩ := List.mem_map.1 ho
          exact remO_i (by have := List.mem_range.1 hi; omega)
         ·rw [(List.mem_replicate.1 ho).2]; exact addO_i
        have hLn : (fullL j).length = j + j := by simp [fullL]
        have HOI := hid hOI
        have HLn := hid hLn
        have hs5 := M9.out.1.size
        cases first with
        | false =>
         have hO := HO9.out
         rw [← hLn] at hO
         obtain ⟨ab, c2, e9, hors⟩ := OrsAt.of_bare hO hOI
         have HE9 := hid e9
         have HOrs := hid hors
         clear hO hOI hLn e9 hors HO9 HA9 HW9 HL9
         go_wp2_with fail
         go_meet
         exact ⟨_, ab, c2, HE9.out, rfl, HOrs.out, M9.out⟩
        | true =>
         have HNb : Hid (Has (wr.alloc (.cells #[.int .i64 1, .int .i64 0, .int .i64 0, .int .i64 0, .int .i64 0, .int .i64 0, .int .i64 0, .int .i64 0, .int .i64 0, .int .i64 0, .int .i64 0, .int .i64 0, .int .i64 1, .int .i64 4294967296, .slice none 0 0] 49)) wr.heap.size 49 #[.int .i64 1, .int .i64 0, .int .i64 0, .int .i64 0, .int .i64 0, .int .i64 0, .int .i64 0, .int .i64 0, .int .i64 0, .int .i64 0, .int .i64 0, .int .i64 0, .int .i64 1, .int .i64 4294967296, .slice none 0 0]) := has_new _ _ _
         have HOa : Hid ((wr.alloc (.cells #[.int .i64 1, .int .i64 0, .int .i64 0, .int .i64 0, .int .i64 0, .int .i64 0, .int .i64 0, .int .i64 0, .int .i64 0, .int .i64 0, .int .i64 0, .int .i64 0, .int .i64 1, .int .i64 4294967296, .slice none 0 0] 49)).ownsRow W7.heap.size 49 15 (.slice (some ⟨wr.heap.size, 0, none⟩) 1 1) 1 (flatE encO [addO])) := ⟨rfl, .inr ⟨wr.heap.size, 1, _, rfl, hs5, HNb.out, Nat.le_refl _, by unfold maxLen; omega, rfl, rfl⟩⟩
         have HMa : Hid (Made W7.heap.size W7 (wr.alloc (.cells #[.int .i64 1, .int .i64 0, .int .i64 0, .int .i64 0, .int .i64 0, .int .i64 0, .int .i64 0, .int .i64 0, .int .i64 0, .int .i64 0, .int .i64 0, .int .i64 0, .int .i64 1, .int .i64 4294967296, .slice none 0 0] 49))) := M9.out.cells hs5 _ _
         have HO9a := hid (HO9.out.alloc (.cells #[.int .i64 1, .int .i64 0, .int .i64 0, .int .i64 0, .int .i64 0, .int .i64 0, .int .i64 0, .int .i64 0, .int .i64 0, .int .i64 0, .int .i64 0, .int .i64 0, .int .i64 1, .int .i64 4294967296, .slice none 0 0] 49))
         have x_0 := HA9.out.at_ 0
         have x_1 := HA9.out.at_ 1
         have x_2 := HA9.out.at_ 2
         have x_3 := HA9.out.at_ 3
         have x_4 := HA9.out.at_ 4
         have x_5 := HA9.out.at_ 5
         have x_6 := HA9.out.at_ 6
         have x_7 := HA9.out.at_ 7
         have x_8 := HA9.out.at_ 8
         have x_9 := HA9.out.at_ 9
         have x_10 := HA9.out.at_ 10
         have x_11 := HA9.out.at_ 11
         have x_12 := HA9.out.at_ 12
         have x_13 := HA9.out.at_ 13
         have x_14 := HA9.out.at_ 14
         simp at x_0 x_1 x_2 x_3 x_4 x_5 x_6 x_7 x_8 x_9 x_10 x_11 x_12 x_13 x_14
         have lx : ga < wr.heap.size := HA9.out.here
         by_cases hj0 : j = 0
         ·subst hj0
          have hO := HO9.out
          obtain ⟨ab0, c0, e9, _⟩ := OrsAt.of_bare (L := fullL 0) hO hOI
          have hrun := app_none15 (wr.alloc (.cells #[.int .i64 1, .int .i64 0, .int .i64 0, .int .i64 0, .int .i64 0, .int .i64 0, .int .i64 0, .int .i64 0, .int .i64 0, .int .i64 0, .int .i64 0, .int .i64 0, .int .i64 1, .int .i64 4294967296, .slice none 0 0] 49)) W7.heap.size 45 (.slice (some ⟨wr.heap.size, 0, none⟩) 1 1) 1 (flatE encO [addO]) HOa.out ab0 c0
          have HRun := hid hrun
          have e9 : u9 = .slice ab0 0 c0 := e9
          obtain ⟨ab, c2, e10, hors⟩ := OrsAt.of_bare (L := [addO]) HOa.out (fun o ho => by rw [List.mem_singleton.1 ho]; exact addO_i)
          have HE10 := hid e10
          have HOrs := hid hors
          subst e9
          clear hO hOI hLn hors HO9 HA9 HW9 HL9 hrun e10 HO9a
          go_wp2_with (at_builtin; refine Lib.wpList_append_run _ rfl _ _ _ _ rfl _ _ rfl rfl _ _ HRun.out ?_)
          go_meet
          exact ⟨[addO], ab, c2, HE10.out, rfl, HOrs.out, HMa.out⟩
         ·obtain ⟨g9, cap9, e9⟩ := Go.Joins.ownsRow_form HO9.out (by omega)
          have hc9 := World.ownsRow.cells HO9a.out (g := g9) (by rw [e9]; rfl)
          have HC9 := hid hc9
          have HLf : Hid ((flatE encO (fullL j)).length = (j + j) * 15) := by unfold Hid; have := HO9.out.1; exact this
          have H1c : Hid (∀ v ∈ flatE encO (fullL j), v.oneCell' = true) := flatE_one encO_one (fullL j)
          subst e9
          clear hOI hLn hc9 HO9 HA9 HW9 HL9 HO9a
          go_wp2_with (at_builtin; refine wpList_append_at rfl (.tmp 63) (.tmp 64) 45 rfl W7.heap.size 49 iO (.agg #[.int .i64 0, .int .i64 0, .int .i64 0, .int .i64 0, .int .i64 0, .int .i64 0, .int .i64 0, .int .i64 0, .int .i64 0, .int .i64 0, .int .i64 0, .int .i64 0, .int .i64 0, .int .i64 0, .slice none 0 0]) 15 136 Tryz.underlying45 iHi.out iH0.out iH1.out iH2.out rfl (by decide) (.slice (some ⟨wr.heap.size, 0, none⟩) 1 1) 1 (flatE encO [addO]) rfl HOa.out ⟨g9, 0, none⟩ (j + j) cap9 (flatE encO (fullL j)) rfl HLf.out HC9.out H1c.out (by unfold maxLen; omega) (by omega) (by simp; omega) (by omega) ?_)
          intro v6 w6' hown hbt hnx
          have HM6 : Hid (Made W7.heap.size W7 w6') := But.made_ HMa.out hbt HMa.out.1.size (fun b hb => own_from HOa.out hb)
          have hO6 : w6'.ownsRow W7.heap.size 49 15 v6 (addO :: fullL j).length (flatE encO (addO :: fullL j)) := by
           rw [List.length_cons, HLn.out, Nat.add_comm]
           exact hown
          obtain ⟨ab, c2, e10, hors⟩ := OrsAt.of_bare hO6 (fun o ho => by
           rcases List.mem_cons.1 ho with rfl | ho
           ·exact addO_i
           ·exact HOI.out o ho)
          have HE10 := hid e10
          have HOrs := hid hors
          clear hown hbt hnx hO6 e10 hors
          go_wp2_with fail
          go_meet
          exact ⟨addO :: fullL j, ab, c2, HE10.out, rfl, HOrs.out, HM6.out⟩
       case rest =>
        obtain ⟨K, ab, c2, rfl, HK, HH⟩ := hcut
        have HOs := hid HH.out.1
        have Mc := hid HH.out.2
        clear HH HO9 M9 HA9 HW9 HL9 iHi iH0 iH1 iH2 iHb iB0 iB1 iB2
        have HWc := hid (HW7.out.stays Mc.out HW7.out.here)
        have HLc := hid (HL7.out.kept Mc.out)
        have HMc : Hid (Made gw w2 wc) := M7.out.then_ (Mc.out.low (Nat.le_of_lt HW7.out.here))
        have HOk : Hid (∀ o ∈ K, (o.ao = none ∧ o.n = 0 ∧ o.c = 0) ∨ ∃ a, o.ao = some a) := fun o ho => by
         rw [HK.out] at ho
         have : o = addO ∨ o ∈ fullL j := by
          cases first with
          | true => exact List.mem_cons.1 (by simpa using ho)
          | false => exact .inr (by simpa using ho)
         rcases this with rfl | h
         ·exact .inl ⟨rfl, rfl, rfl⟩
         ·rcases List.mem_append.1 h with h | h
          ·obtain ⟨i, _, rfl⟩ := List.mem_map.1 h; exact .inl ⟨rfl, rfl, rfl⟩
          ·rw [(List.mem_replicate.1 h).2]; exact .inl ⟨rfl, rfl, rfl⟩
        clear HW7 HL7 M7 Mc
        go_upto_region 26 with fail
        have HLn0 : Hid (WLs Nil0 wc ob cb (circs 1024) none 0 [] none 0 []) := HLc.out.free (Y := Nil0) (fun b hb => hb.elim)
        have HKl : Hid (K.length ≤ 1073741824) := by
         unfold Hid
         rw [HK.out]
         have hLn : (fullL j).length = j + j := by simp [fullL]
         split
         ·rw [List.length_cons, hLn]; omega
         ·rw [hLn]; omega
        have HAl := hid (oall_c (nC := 0) (c := c2) (n := K.length) 0 0 0 1025 1 (circs 1024) [] [] ob none none cb 0 0 rfl HKl.out HOs.out HOk.out HLn0.out (nB := 1024) (nJ := 0) (circs_len 1024) rfl rfl full_ok (by decide))
        have HCk0 := hid (fun v (kb : Below wc.heap.size wc v) => ocheck_c (nC := 0) (c := c2) (n := K.length) (w := v) 0 0 0 1025 1 (circs 1024) [] [] ob none none cb 0 0 rfl HKl.out (HOs.out.below kb) HOk.out (HLn0.out.bub (Below.bub (X := Nil0) kb) (fun _ h => h)) (nB := 1024) (nJ := 0) (circs_len 1024) rfl rfl full_ok (by decide))
        have b0 := HWc.out.at_ 0
        have b1 := HWc.out.at_ 1
        have b2 := HWc.out.at_ 2
        have b3 := HWc.out.at_ 3
        have b4 := HWc.out.at_ 4
        have b5 := HWc.out.at_ 5
        have b6 := HWc.out.at_ 6
        have b7 := HWc.out.at_ 7
        simp at b0 b1 b2 b3 b4 b5 b6 b7
        have lw : gw < wc.heap.size := HWc.out.here
        go_wp2_with fail
        refine HAl.out.mono ?_
        rintro e w17 ⟨er, G', hA, kb, hr⟩
        have hA1 : first = true → er = 3 := fun h => by
         have h2 := hA
         rw [HK.out, h] at h2
         exact full_none (k := j) (by omega) h2
        have hA2 : first = false → er = 0 ∧ G'.P.B.length = 1024 ∧ G'.P.nb = 1025 + (j : Int) := fun h => by
         have h2 := hA
         rw [HK.out, h] at h2
         exact full_some (k := j) (by omega) h2
        obtain ⟨yt, ynb, ynj, ygx, ygy, yob, yoj, yoc, ylb, ylj, ylc, ycb, ycj, ycc, rfl, hgot⟩ : ∃ yt ynb ynj ygx ygy yob yoj yoc ylb ylj ylc ycb ycj ycc, e = .returned (.tuple #[wdV yt ynb ynj ygx ygy (.slice yob ylb ycb) (.slice yoj ylj ycj) (.slice yoc ylc ycc), .int .i64 er]) ∧ ((first = true ∧ er = 3 ∧ ylb = 0) ∨ (first = false ∧ er = 0 ∧ ylb = 1024 ∧ ynb = 1025 + (j : Int) ∧ GOk G' ∧ G'.P.C.length ≤ 0 ∧ ∃ B', EqBs G'.P.B B' ∧ yt = G'.tk ∧ ynb = G'.P.nb ∧ ynj = G'.P.nj ∧ ygx = G'.gx ∧ ygy = G'.gy ∧ ylb = B'.length ∧ ylj = G'.P.J.length ∧ ylc = G'.P.C.length ∧ WLs (fun b => b < wc.heap.size) w17 yob ycb B' yoj ycj G'.P.J yoc ycc G'.P.C)) := by
         rcases hr with ⟨h0, ob', oj', oc', cb', cj', cc', rfl⟩ | ⟨h0, h1, h2, B', ob', oj', oc', cb', cj', cc', h3, rfl, h4⟩
         ·refine ⟨0, 0, 0, 0, 0, ob', oj', oc', 0, 0, 0, cb', cj', cc', rfl, .inl ?_⟩
          cases first with
          | true => exact ⟨rfl, hA1 rfl, rfl⟩
          | false => exact absurd (hA2 rfl).1 h0
         ·refine ⟨_, _, _, _, _, ob', oj', oc', _, _, _, cb', cj', cc', by rw [h0], .inr ?_⟩
          cases first with
          | true => exact absurd h0 (by rw [hA1 rfl]; decide)
          | false => exact ⟨rfl, h0, by rw [← h3.1]; exact (hA2 rfl).2.1, (hA2 rfl).2.2, h1, h2, B', h3, rfl, rfl, rfl, rfl, rfl, rfl, rfl, rfl, h4⟩
        have HGt := hid hgot
        have B17 := hid kb
        clear hA hA1 hA2 kb hr hgot HAl b0 b1 b2 b3 b4 b5 b6 b7 lw
        have HW17 := hid (HWc.out.kept B17.out HWc.out.here)
        have M17 : Hid (Below gw w2 w17) := HMc.out.1.trans (B17.out.mono (Nat.le_of_lt HWc.out.here))
        go_upto_region 27 with fail
        obtain ⟨W18, eW18⟩ : ∃ V, V = w17.alloc (.cells #[.int .i64 yt, .int .i64 ynb, .int .i64 ynj, .int .i64 ygx, .int .i64 ygy, .slice yob ylb ycb, .slice yoj ylj ycj, .slice yoc ylc ycc] 42) := ⟨_, rfl⟩
        have kk18 : Made w17.heap.size w17 W18 := by rw [eW18]; exact (Made.rfl_ _ _).cells (Nat.le_refl _) _ _
        have HG18 : Hid (Has W18 w17.heap.size 42 #[.int .i64 yt, .int .i64 ynb, .int .i64 ynj, .int .i64 ygx, .int .i64 ygy, .slice yob ylb ycb, .slice yoj ylj ycj, .slice yoc ylc ycc]) := by unfold Hid; rw [eW18]; exact has_new _ _ _
        obtain ⟨gg, egg⟩ : ∃ g, w17.heap.size = g := ⟨_, rfl⟩
        have HW18 := hid (HW17.out.stays kk18 HW17.out.here)
        have B18 : Hid (Below wc.heap.size wc W18) := B17.out.trans (kk18.1.mono B17.out.size)
        have M18 : Hid (Below gw w2 W18) := M17.out.trans (kk18.1.mono (Nat.le_of_lt HW17.out.here))
        have HG18b : Hid ((first = true ∧ er = 3 ∧ ylb = 0) ∨ (first = false ∧ er = 0 ∧ ylb = 1024 ∧ ynb = 1025 + (j : Int) ∧ GOk G' ∧ G'.P.C.length ≤ 0 ∧ ∃ B', EqBs G'.P.B B' ∧ yt = G'.tk ∧ ynb = G'.P.nb ∧ ynj = G'.P.nj ∧ ygx = G'.gx ∧ ygy = G'.gy ∧ ylb = B'.length ∧ ylj = G'.P.J.length ∧ ylc = G'.P.C.length ∧ WLs (fun b => b < wc.heap.size) W18 yob ycb B' yoj ycj G'.P.J yoc ycc G'.P.C)) := by
         rcases HGt.out with h | ⟨h1, h2, h3, h4, h5, h6, B', h7, h8, h9, ha, hb, hc, hd, he, hf, hg⟩
         ·exact .inl h
         ·exact .inr ⟨h1, h2, h3, h4, h5, h6, B', h7, h8, h9, ha, hb, hc, hd, he, hf, hg.kept kk18⟩
        rw [egg] at HG18
        rw [← eW18]
        clear eW18 kk18 HW17 HGt B17 M17
        try rw [egg]
        clear egg
        have y_0 := HG18.out.at_ 0
        have y_1 := HG18.out.at_ 1
        have y_2 := HG18.out.at_ 2
        have y_3 := HG18.out.at_ 3
        have y_4 := HG18.out.at_ 4
        have y_5 := HG18.out.at_ 5
        have y_6 := HG18.out.at_ 6
        have y_7 := HG18.out.at_ 7
        simp at y_0 y_1 y_2 y_3 y_4 y_5 y_6 y_7
        have ly : gg < W18.heap.size := HG18.out.here
        have b0 := HW18.out.at_ 0
        have b1 := HW18.out.at_ 1
        have b2 := HW18.out.at_ 2
        have b3 := HW18.out.at_ 3
        have b4 := HW18.out.at_ 4
        have b5 := HW18.out.at_ 5
        have b6 := HW18.out.at_ 6
        have b7 := HW18.out.at_ 7
        simp at b0 b1 b2 b3 b4 b5 b6 b7
        have lw : gw < W18.heap.size := HW18.out.here
        have KF : Hid (∀ v, Below W18.heap.size W18 v → Below w.heap.size w v) := fun v k => K2.out.1.trans ((M18.out.mono HS2.out).trans (k.mono (Nat.le_trans HS2.out (Nat.le_of_lt HW18.out.here))))
        cases first with
        | true =>
         obtain ⟨rfl, rfl⟩ : er = 3 ∧ ylb = 0 := by
          rcases HG18b.out with ⟨_, h1, h2⟩ | ⟨h, _⟩
          ·exact ⟨h1, h2⟩
          ·cases h
         clear HG18b
         go_wp2_with fail
         refine (HCk0.out _ B18.out).mono ?_
         rintro e w19 ⟨er2, G2, rfl, hA2, kb⟩
         have he2 : er2 = 3 := by
          rw [HK.out] at hA2
          exact full_none (k := j) (by omega) hA2
         subst he2
         have HG19 := hid (HG18.out.kept kb HG18.out.here)
         have KF19 := hid (KF.out _ kb)
         clear hA2 kb b0 b1 b2 b3 b4 b5 b6 b7 lw y_0 y_1 y_2 y_3 y_4 y_5 y_6 y_7 ly
         have y_0 := HG19.out.at_ 0
         have y_1 := HG19.out.at_ 1
         have y_2 := HG19.out.at_ 2
         have y_3 := HG19.out.at_ 3
         have y_4 := HG19.out.at_ 4
         have y_5 := HG19.out.at_ 5
         have y_6 := HG19.out.at_ 6
         have y_7 := HG19.out.at_ 7
         simp at y_0 y_1 y_2 y_3 y_4 y_5 y_6 y_7
         have ly : gg < w19.heap.size := HG19.out.here
         go_wp2_with fail
         go_ret
         exact ⟨rfl, KF19.out⟩
        | false =>
         obtain ⟨rfl, rfl, rfl, hGk, hGc, B', h7, h8, h9, ha, hb, hc, hd, he, hf, hg⟩ : er = 0 ∧ ylb = 1024 ∧ ynb = 1025 + (j : Int) ∧ GOk G' ∧ G'.P.C.length ≤ 0 ∧ ∃ B', EqBs G'.P.B B' ∧ yt = G'.tk ∧ ynb = G'.P.nb ∧ ynj = G'.P.nj ∧ ygx = G'.gx ∧ ygy = G'.gy ∧ ylb = B'.length ∧ ylj = G'.P.J.length ∧ ylc = G'.P.C.length ∧ WLs (fun b => b < wc.heap.size) W18 yob ycb B' yoj ycj G'.P.J yoc ycc G'.P.C := by
          rcases HG18b.out with ⟨h, _⟩ | ⟨_, h⟩
          ·cases h
          ·exact h
         have HWP := hid (world_same2 hGk h7)
         have lJ : ylj ≤ 1073741824 := by rw [he]; have : G'.P.J.length ≤ 1024 := hGk.hJ.len; omega
         have lC : ylc ≤ 1073741824 := by rw [hf]; omega
         have HRt := hid (wright_c (w := W18) yt (1025 + (j : Int)) ynj ygx ygy yob yoj yoc 1024 ycb ylj ycj ylc ycc true (B := B') (J := G'.P.J) (C := G'.P.C) hd.symm (by omega) he.symm lJ hf.symm lC hg.at_ (by rw [hb]; exact gok_x2 hGk) (by rw [hc]; exact gok_y2 hGk) ⟨fun _ => by rw [h8, h9, ha, hb, hc]; exact HWP.out, fun _ => rfl⟩)
         obtain ⟨NB, eNB⟩ : ∃ z, 1025 + (j : Int) = z := ⟨_, rfl⟩
         rw [eNB] at HRt y_1
         clear hGk hGc h7 h8 h9 ha hb hc hd he hf hg lJ lC HG18b HWP
         have hq : ((NB : Int) == NB) = true := by simp
         go_wp2_with fail
         refine HRt.out.mono ?_
         rintro e w19 ⟨rfl, kb⟩
         go_wp2_with fail
         go_ret
         exact ⟨rfl, KF.out _ kb.1⟩
end Go.Proofs.YtjecadafjnbijaaGreat.Fx