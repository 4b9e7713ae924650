/- WorldRuns. -/
import Derived.Test.YtggpchclfikneaaWrA
import Derived.Test.YtggpchclfikneaaWlP
import Derived.Deep.CutBlock
import Derived.Deep.DeepCutAuto
namespace Go.Proofs.Ytggpchclfikneaa.Fx
open Go.ChangeShapes Go.WideShapes Go.ChangeAt Go.RowKit Go.Maps
set_option linter.unusedVariables false

set_option maxRecDepth 100000 in
theorem lawI : Keyed Try.prog 3 := int_keyed Try.underlying3
theorem keyI {a : Int} (h : I64 a) : keyOf Try.prog 3 (.int .i64 a) = some (ik a) := keyOf_int_mk Try.underlying3 (by unfold I64 at h; simp [Lit.wf, IntKind.min, IntKind.max, IntKind.bits, IntKind.signed]; omega)
set_option maxRecDepth 100000 in
theorem zeroI (w : World) : (zeroValue 3).run Try.prog w = .ok (.int .i64 0) w := by kernel_rfl
set_option maxRecDepth 100000 in
theorem zeroP (w : World) : (zeroValue 54).run Try.prog w = .ok (.agg #[.int .i64 0, .int .i64 0]) w := by kernel_rfl
/-- m[k] of the bodies' numbers, as an equation -/
theorem lookB {w : World} {g n : Nat} {D : DataW Unit} {K : List Int} {a : Int} (h : w.ownsMap Try.prog 3 (plainElem (H := Unit) Try.prog 3) g n D) (hm : BodM D K) (ha : I64 a) : ∃ c : Int, (Instr.lookup 33 (.map (some g)) (.int .i64 a) false).run Try.prog w = .ok (.int .i64 c) w ∧ ((a ∈ K ∧ c = 1) ∨ (a ∉ K ∧ c = 0)) := by
  obtain ⟨c, hrun, hat, _⟩ := h.lookup_int lawI Try.underlying33 Try.underlying3 (zeroI w) (keyI ha)
  exact ⟨c, hrun, hm.look hat⟩
theorem lookB1 {w : World} {g n : Nat} {D : DataW Unit} {K : List Int} {a : Int} (h : w.ownsMap Try.prog 3 (plainElem (H := Unit) Try.prog 3) g n D) (hm : BodM D K) (ha : I64 a) (hk : a ∈ K) : (Instr.lookup 33 (.map (some g)) (.int .i64 a) false).run Try.prog w = .ok (.int .i64 1) w := by
  obtain ⟨c, hr, hc⟩ := lookB h hm ha
  rcases hc with ⟨_, rfl⟩ | ⟨h1, _⟩
  · exact hr
  · exact absurd hk h1
theorem lookB0 {w : World} {g n : Nat} {D : DataW Unit} {K : List Int} {a : Int} (h : w.ownsMap Try.prog 3 (plainElem (H := Unit) Try.prog 3) g n D) (hm : BodM D K) (ha : I64 a) (hk : a ∉ K) : (Instr.lookup 33 (.map (some g)) (.int .i64 a) false).run Try.prog w = .ok (.int .i64 0) w := by
  obtain ⟨c, hr, hc⟩ := lookB h hm ha
  rcases hc with ⟨h1, _⟩ | ⟨_, rfl⟩
  · exact absurd h1 hk
  · exact hr
/-- m[k] of the joints, with ok -/
theorem lookJ {w : World} {g n : Nat} {D : DataW Unit} {J : List Jt} {a : Int} {q : Bool} (h : w.ownsMap Try.prog 3 pairElem g n D) (hm : JoM D J) (ha : I64 a) (hq : q = true ↔ ∃ x ∈ J, x.id = a) : ∃ x y : Int, (Instr.lookup 34 (.map (some g)) (.int .i64 a) true).run Try.prog w = .ok (.tuple #[.agg #[.int .i64 x, .int .i64 y], .bool q]) w := by
  obtain ⟨v, ps, hrun, hv⟩ := h.look_ok lawI Try.underlying34 (zeroP w) (pairElem_mk 0 0) (keyI ha)
  obtain ⟨p, rfl, _⟩ := pairElem_inv hv
  have e : Maps.has D (ik a) = q := by
    have h1 := hm.has a
    rw [Bool.eq_iff_iff]
    exact h1.trans hq.symm
  rw [e] at hrun
  exact ⟨p.1, p.2, hrun⟩
theorem stepJ {b : Bd} {j : Jt} {K id n e : Int} {g : Bool} {P P' : PW} (h : StepP b j K id P n e g P') (hK : K = 4 ∨ K = 5) : g = false ∧ AddJP j P n e P' := by
  rcases h with ⟨_, h1, h2⟩ | ⟨h, _⟩ | ⟨h, _⟩ | ⟨h, _⟩
  · exact ⟨h1, h2⟩
  · omega
  · omega
  · omega
theorem step6 {b : Bd} {j : Jt} {K id n e : Int} {g : Bool} {P P' : PW} (h : StepP b j K id P n e g P') (hK : K = 6) : n = 0 ∧ e = 0 ∧ RemBP id P g P' := by
  rcases h with ⟨h, _⟩ | ⟨_, h⟩ | ⟨h, _⟩ | ⟨h, _⟩
  · omega
  · exact h
  · omega
  · omega
theorem step3 {b : Bd} {j : Jt} {K id n e : Int} {g : Bool} {P P' : PW} (h : StepP b j K id P n e g P') (hK : K = 3) : n = 0 ∧ e = 0 ∧ RemJP id P g P' := by
  rcases h with ⟨h, _⟩ | ⟨h, _⟩ | ⟨_, h⟩ | ⟨h, _⟩
  · omega
  · omega
  · exact h
  · omega
theorem stepB {b : Bd} {j : Jt} {K id n e : Int} {g : Bool} {P P' : PW} (h : StepP b j K id P n e g P') (hK : ¬ (K = 3 ∨ K = 4 ∨ K = 5 ∨ K = 6)) : g = false ∧ AddBP b P n e P' := by
  rcases h with ⟨h, _⟩ | ⟨h, _⟩ | ⟨h, _⟩ | ⟨_, h⟩
  · omega
  · omega
  · omega
  · exact h
theorem rem_sets {P P' : PW} {id : Int} {g : Bool} (hP : POk P) (h : RemBP id P g P') : ids P'.B = ((ids P.B).filter fun b => !(b == id)) ∧ P'.J = (P.J.filter fun j => !goneJ id j) ∧ (P'.nb = P.nb ∧ P'.nj = P.nj) ∧ (g = true ↔ id ∈ ids P.B) := by
  rcases h with ⟨h1, rfl, rfl⟩ | ⟨h1, rfl, rfl⟩
  · refine ⟨(List.filter_eq_self.2 fun b hb => ?_).symm, (List.filter_eq_self.2 fun j hj => ?_).symm, ⟨rfl, rfl⟩, ⟨fun e => (by cases e), fun e => absurd e h1⟩⟩
    · have : b ≠ id := fun e => h1 (e ▸ hb)
      simpa using this
    · obtain ⟨_, h2, h3⟩ := hP.hJ.all j hj
      have e1 : j.a ≠ id := fun e => h1 (e ▸ h2)
      have e2 : j.b ≠ id := fun e => h1 (e ▸ h3)
      unfold goneJ
      simp [e1, e2]
  · exact ⟨by show ids (P.B.filter fun x => !goneB id x) = _; rw [ids_filter], rfl, ⟨rfl, rfl⟩, ⟨fun _ => h1, fun _ => rfl⟩⟩
theorem remJ_sets {P P' : PW} {id : Int} {g : Bool} (h : RemJP id P g P') : P'.B = P.B ∧ P'.J = (P.J.filter fun j => !isJ id j) ∧ (P'.nb = P.nb ∧ P'.nj = P.nj) ∧ (g = true ↔ ∃ x ∈ P.J, x.id = id) := by
  rcases h with ⟨h1, rfl, rfl⟩ | ⟨h1, rfl, rfl⟩
  · refine ⟨rfl, (List.filter_eq_self.2 fun j hj => ?_).symm, ⟨rfl, rfl⟩, ⟨fun e => (by cases e), fun e => absurd e h1⟩⟩
    have : j.id ≠ id := fun e => h1 ⟨j, hj, e⟩
    unfold isJ
    simpa using this
  · exact ⟨rfl, rfl, ⟨rfl, rfl⟩, ⟨fun _ => h1, fun _ => rfl⟩⟩
theorem body_any {b : Bd} (ao : Option Addr) (c : Nat) : BodyP (⟨b.id, b.x, b.y, b.vx, b.vy, b.an, b.sp, b.de, b.k, b.r, ao, b.n, c, b.f⟩ : Bd) ↔ BodyP b := ⟨fun h => ⟨h.shape, h.x, h.y, h.vx, h.vy, h.sp, h.an, h.de, h.still⟩, fun h => ⟨h.shape, h.x, h.y, h.vx, h.vy, h.sp, h.an, h.de, h.still⟩⟩
theorem invK (key : Value) (kl : Lit) (h : keyOf Try.prog 3 key = some kl) : ∃ x, key = Value.int .i64 x := by obtain ⟨x, rfl, _⟩ := Maps.keyOf_int_inv Try.underlying3 h; exact ⟨x, rfl⟩
theorem invV (v : Value) (y : DataW Unit × List MemPlace) (h : pairElem v = some y) : ∃ p : Int × Int, v = pairV p := by obtain ⟨p, rfl, _⟩ := pairElem_inv h; exact ⟨p, rfl⟩
theorem wf_I64 {a : Int} (h : (Lit.int .i64 a).wf = true) : I64 a := by
  simp [Lit.wf, IntKind.min, IntKind.max, IntKind.bits, IntKind.signed] at h
  unfold I64
  omega
theorem nodup_up {l : List Int} (h : l.Pairwise (· < ·)) : l.Nodup := h.imp (fun {a b} hab => by omega)
set_option maxRecDepth 100000 in
set_option maxHeartbeats 64000000 in
theorem wruns_walk (l : List De) (ao : Option Addr) (nl c : Nat) (w : World) (hn : l.length = nl) (hD : DesAt w ao l) (hnc : nl ≤ c) (hcm : c ≤ maxLen) (ho : (ao = none ∧ nl = 0 ∧ c = 0) ∨ ∃ a, ao = some a) :
    Calls Try.prog 3 #[.slice ao nl c] w fun e v => e = .returned (.bool true) ∧ Made w.heap.size w v := by
  have HN := hid hn
  have HLs := hid hD.1
  have HSw := hid (fun x hx => (hD.2 x hx).2)
  have HD := hid (fun v (k : Made w.heap.size w v) => hD.kept k)
  have hmm := @run_makeMap Try.prog
  clear hn hD hcm
  by_cases h30 : 30 < nl
  · go_enter Try.func3, Try.ntmps3
    go_wp2_with fail
    refine (wfit_c _).mono ?_
    rintro e w1 ⟨rfl, k1⟩
    have K1 := hid k1
    clear k1
    go_wp2_with fail
    go_ret
    exact ⟨rfl, K1.out⟩
  · go_enter Try.func3, Try.ntmps3
    go_wp2_with fail
    refine (wfit_c _).mono ?_
    rintro e w0 ⟨rfl, k1⟩
    have K0 := hid k1
    clear k1
    go_wp2_with fail
    refine (new_c _).mono ?_
    rintro e w1 ⟨rfl, k1⟩
    have K1 := hid (K0.out.then_ (k1.low K0.out.1.size))
    clear k1
    obtain ⟨W2, eW2⟩ : ∃ V, V = w1.alloc (.cells #[.int .i64 0, .int .i64 1, .int .i64 1, .int .i64 0, .int .i64 0, .slice none 0 0, .slice none 0 0, .slice none 0 0] 31) := ⟨_, rfl⟩
    have K2 : Hid (Made w.heap.size w W2) := by unfold Hid; rw [eW2]; exact K1.out.cells K1.out.1.size _ _
    have HM2 : Hid (Has W2 w1.heap.size 31 #[.int .i64 0, .int .i64 1, .int .i64 1, .int .i64 0, .int .i64 0, .slice none 0 0, .slice none 0 0, .slice none 0 0]) := by unfold Hid; rw [eW2]; exact has_new _ _ _
    have hgw : w.heap.size ≤ w1.heap.size := K1.out.1.size
    obtain ⟨gw, egw⟩ : ∃ g, w1.heap.size = g := ⟨_, rfl⟩
    rw [egw] at HM2 hgw
    go_upto_region 6 with fail
    rw [← eW2]
    clear eW2
    try rw [egw]
    clear egw
    go_cut [4, 5] (fun s4 s5 wx => ∃ gB gJ : Nat, s4 = .map (some gB) ∧ s5 = .map (some gJ) ∧ Hid (But Nil0 W2 wx ∧ W2.heap.size ≤ gB ∧ W2.heap.size ≤ gJ ∧ gB ≠ gJ ∧ wx.ownsMap Try.prog 3 (plainElem (H := Unit) Try.prog 3) gB 0 (.map []) ∧ wx.ownsMap Try.prog 3 pairElem gJ 0 (.map [])))
    case first =>
      go_wp2_with fail
      go_meet
      exact ⟨_, _, rfl, rfl, ownsMap_made'.then_ ownsMap_made', Nat.le_refl _, (by simp), (by simp), (World.ownsMap_made _ _ _ _).alloc _, (by have h := World.ownsMap_made (W2.alloc (.map #[] 0)) Try.prog 3 pairElem; rwa [show (W2.alloc (.map #[] 0)).heap.size = W2.heap.size + 1 by simp] at h)⟩
    case rest =>
      obtain ⟨gB, gJ, rfl, rfl, HQ⟩ := hcut
      obtain ⟨kQ, hgB, hgJ, hne, oB, oJ⟩ := HQ.out
      have K3 : Hid (Made w.heap.size w wc) := hid (K2.out.then_ (kQ.made.low K2.out.1.size))
      have hlw : gw < W2.heap.size := HM2.out.here
      have HV3 : Hid (WV (fun b => b = gw ∨ b = gB ∨ b = gJ) wc gw ⟨1, 1, [], [], []⟩) := WVar.kept (w := W2) ⟨none, none, none, 0, 0, 0, HM2.out, ls_new _ _⟩ kQ.made
      have HB3 := hid oB; have HJ3 := hid oJ
      have hgB' : gw < gB := by omega
      have hgJ' : gw < gJ := by omega
      clear HQ kQ oB oJ hgB hgJ hlw
      clear hmm
      go_wp2_with fail
      go_loopg [6, 7, 9, 10, 11, 12, 13, 14, 15, 16, 17, 18, 19, 20, 38] nl (fun gg s6 s7 s9 s10 s11 s12 s13 s14 s15 s16 s17 s18 s19 s20 s38 wx => ∃ (k : Nat) (P : PW) (nx fr : Int) (DB DJ : DataW Unit), k + gg = nl ∧ s38 = .int .i64 (k : Nat) ∧ s6 = .int .i64 nx ∧ s7 = .int .i64 fr ∧ Hid ((Made w.heap.size w wx ∧ WV (fun b => b = gw ∨ b = gB ∨ b = gJ) wx gw P ∧ POk P ∧ Small P (k) ∧ (P.nb = nx ∧ P.nj = fr)) ∧ (wx.ownsMap Try.prog 3 (plainElem (H := Unit) Try.prog 3) gB (k) DB ∧ BodM DB (ids P.B)) ∧ wx.ownsMap Try.prog 3 pairElem gJ (k) DJ ∧ JoM DJ P.J))
      case atStart => exact ⟨0, ⟨1, 1, [], [], []⟩, 1, 1, .map [], .map [], by omega, rfl, rfl, rfl, ⟨K3.out, HV3.out, ok_new, ⟨rfl, Nat.le_refl _, Nat.le_refl _, by show (1 : Int) ≤ _; omega, by show (1 : Int) ≤ _; omega⟩, rfl, rfl⟩, ⟨HB3.out, bodM_nil⟩, HJ3.out, joM_nil⟩
      case round =>
        obtain ⟨k, P, nx, fr, DB, DJ, hk, rfl, rfl, rfl, HB⟩ := hrel
        clear HB3 HJ3 K3 HV3
        by_cases hlt : k < nl
        · obtain ⟨d, ed⟩ : ∃ a, l[k]? = some a := ⟨_, List.getElem?_eq_getElem (by rw [HN.out]; omega)⟩
          have HK1 := hid HB.out.1.1
          have hDk := HD.out wr HK1.out
          obtain ⟨b, off, e, hbl, hLB⟩ := hDk.1 (by rw [HN.out]; omega)
          subst e
          have HRg := hid (hLB.rangeAt ed)
          have HDI := hid (hDk.2 d (List.mem_of_getElem? ed))
          have HSd := hid (HSw.out d (List.mem_of_getElem? ed))
          obtain ⟨cs, ecs⟩ : ∃ cs, encD d = cs := ⟨_, rfl⟩
          have hlen : cs.length = 30 := by rw [← ecs]; exact encD_len d
          have h1c : ∀ v ∈ cs, v.oneCell' = true := by rw [← ecs]; exact encD_one d
          have HCS : Hid (deV d = .agg cs.toArray) := by unfold Hid; rw [← ecs]; rfl
          have HC0 : Hid (cs[0]? = some (.int .i64 d.kd) ∧ cs[12]? = some (.int .i64 d.a) ∧ cs[29]? = some (.slice d.rao d.rn d.rc)) := by unfold Hid; rw [← ecs]; exact ⟨rfl, rfl, rfl⟩
          rw [ecs] at HRg
          have H1C := hid h1c
          have HLEN := hid hlen
          clear hDk hLB ed h1c hlen ecs
          obtain ⟨gd, egd⟩ : ∃ g, wr.heap.size = g := ⟨_, rfl⟩
          have HVk := hid HB.out.1.2.1
          have HPk := hid HB.out.1.2.2.1
          have HSm := hid HB.out.1.2.2.2.1
          have HNx := hid HB.out.1.2.2.2.2
          have HoB := hid HB.out.2.1
          have HoJ := hid HB.out.2.2
          clear HB
          obtain ⟨bd, hbd⟩ := dbody_c d HDI.out.1
          have HBD := hid hbd
          clear hbd
          have HTH : Hid ((wr.alloc (.cells #[.int .i64 0, .int .i64 0, .int .i64 0, .int .i64 0, .int .i64 0, .int .i64 0, .int .i64 0, .int .i64 0, .int .i64 0, .int .i64 0, .int .i64 0, .int .i64 0, .int .i64 0, .int .i64 0, .int .i64 0, .int .i64 0, .int .i64 0, .int .i64 0, .int .i64 0, .int .i64 0, .int .i64 0, .int .i64 0, .int .i64 0, .int .i64 0, .int .i64 0, .int .i64 0, .int .i64 0, .int .i64 0, .int .i64 0, .slice none 0 0] 45)).there gd 0 cs.length) := by unfold Hid; rw [HLEN.out, ← egd]; exact there_of (has_new _ _ _) (by decide)
          go_upto_region 11 with (first
            | refine wpList_load_mid rfl 45 (.tmp 40) rfl b (off + k * 30) rfl cs _ HRg.out Try.underlying45 rfl (by rw [HLEN.out]; kernel_rfl) ?_
            | refine wpList_store_mid rfl 45 (.tmp 9) (.tmp 41) rfl gd 0 cs.toArray rfl rfl HTH.out (by rw [List.size_toArray, HLEN.out]; kernel_rfl) (all_oneCell_toArray H1C.out) ?_)
          obtain ⟨W4, e4⟩ : ∃ V, V = (wr.alloc (.cells #[.int .i64 0, .int .i64 0, .int .i64 0, .int .i64 0, .int .i64 0, .int .i64 0, .int .i64 0, .int .i64 0, .int .i64 0, .int .i64 0, .int .i64 0, .int .i64 0, .int .i64 0, .int .i64 0, .int .i64 0, .int .i64 0, .int .i64 0, .int .i64 0, .int .i64 0, .int .i64 0, .int .i64 0, .int .i64 0, .int .i64 0, .int .i64 0, .int .i64 0, .int .i64 0, .int .i64 0, .int .i64 0, .int .i64 0, .slice none 0 0] 45)).setCells gd 0 cs.toArray.toList := ⟨_, rfl⟩
          have k4 : Made wr.heap.size wr W4 := by rw [e4]; exact Made.setCells (Nat.le_of_eq egd) _ _ ((Made.rfl_ _ _).cells (Nat.le_refl _) _ _)
          have HRd : Hid (W4.rangeAt gd 0 cs) := by unfold Hid; rw [e4]; exact World.rangeAt_setCells_same _ _ _ _ HTH.out
          rw [← e4]
          clear e4
          have K4 := hid (HK1.out.then_ (k4.low HK1.out.1.size))
          have HV4 := hid (WVar.kept HVk.out k4)
          have HoB4 : Hid (W4.ownsMap Try.prog 3 (plainElem (H := Unit) Try.prog 3) gB k DB) := ownsMap_but (X := Nil0) HoB.out.1 (Made.but k4) (fun h => h.elim)
          have HoJ4 : Hid (W4.ownsMap Try.prog 3 pairElem gJ k DJ) := ownsMap_but (X := Nil0) HoJ.out.1 (Made.but k4) (fun h => h.elim)
          have HmB := hid HoB.out.2
          have HmJ := hid HoJ.out.2
          have HS4 : Hid (Sl W4 d.rao d.rn d.rf) := fun hn => by obtain ⟨b, off, e, hp⟩ := HDI.out.2 hn; exact ⟨b, off, e, hp.kept k4⟩
          have HlB : Hid (gB < wr.heap.size ∧ gJ < wr.heap.size) := ⟨HoB.out.1.lt, HoJ.out.1.lt⟩
          have hgd : ¬ gd = gw ∧ ¬ gd = gB ∧ ¬ gd = gJ ∧ w.heap.size ≤ gd := by have h1 := HlB.out; have h2 := WVar.here HVk.out; have h3 := HK1.out.1.size; omega
          have ldd : gd < W4.heap.size := (HRd.out 0 _ HC0.out.1 |> World.block_lt_of_cell? _ _)
          have hc29 : W4.cell? ⟨gd, 29, none⟩ = some (.slice d.rao d.rn d.rc) := by have h := HRd.out 29 _ HC0.out.2.2; simpa using h
          clear k4 HTH HVk HoB HoJ egd HRg
          by_cases h12 : 12 < d.rn
          · go_wp2_with fail
            go_ret
            exact ⟨rfl, K4.out⟩
          · have hX4 : ∀ b, (fun b => b = gw ∨ b = gB ∨ b = gJ) b → b < W4.heap.size := fun b hb => by
              rcases hb with hb | hb | hb
              · rw [hb]; exact WVar.here HV4.out
              · rw [hb]; exact HoB4.out.lt
              · rw [hb]; exact HoJ4.out.lt
            have HDO := hid (do_c (X := (fun b => b = gw ∨ b = gB ∨ b = gJ)) d bd HBD.out HDI.out.1 HV4.out HPk.out (.inl rfl) hX4 HS4.out (by rw [HSm.out.1]; simp))
            rw [HCS.out] at HDO
            clear hX4
            go_wp2_with (refine wpList_load_mid rfl 45 (.tmp 9) rfl gd 0 rfl cs _ HRd.out Try.underlying45 rfl (by rw [HLEN.out]; kernel_rfl) ?_)
            refine HDO.out.mono ?_
            rintro e w5 ⟨n', er, gone, P', rfl, hst, hv, kb⟩
            have HST := hid hst
            have HV5 := hid hv
            have K5 : Hid (Made w.heap.size w w5) := But.made_ K4.out kb K4.out.1.size (fun b hb => by have hb : b = gw := hb; omega)
            have HoB5 : Hid (w5.ownsMap Try.prog 3 (plainElem (H := Unit) Try.prog 3) gB k DB) := ownsMap_but HoB4.out kb (by show ¬ gB = gw; omega)
            have HoJ5 : Hid (w5.ownsMap Try.prog 3 pairElem gJ k DJ) := ownsMap_but HoJ4.out kb (by show ¬ gJ = gw; omega)
            have HRd5 : Hid (w5.rangeAt gd 0 cs) := fun j v hv => kb.cell (HRd.out j v hv) (by show ¬ gd = gw; omega)
            have HS5 : Hid (Sl w5 d.rao d.rn d.rf) := fun hn => by
              obtain ⟨b, off, e, hp⟩ := HSd.out hn
              exact ⟨b, off, e, fun i hi => ⟨(K5.out.1.cell (World.block_lt_of_cell? _ _ (hp i hi).1)).trans (hp i hi).1, (K5.out.1.cell (World.block_lt_of_cell? _ _ (hp i hi).2)).trans (hp i hi).2⟩⟩
            have HP5 := hid (step_ok HPk.out hst)
            have HSm5 := hid (step_small HSm.out hst)
            clear hst hv kb HDO HV4 HoB4 HoJ4 HRd HS4 K4 ldd hc29
            obtain ⟨K, eK⟩ : ∃ z, d.kd % 8 = z := ⟨_, rfl⟩
            obtain ⟨aq, eaq⟩ : ∃ z, d.a % 16 = z := ⟨_, rfl⟩
            rw [eK, eaq] at HST
            have aK := (and7 d.kd).trans eK
            have aA := (and15 d.a).trans eaq
            have haq : 0 ≤ aq ∧ aq < 16 := by omega
            have HIa : Hid (I64 aq) := by unfold Hid I64; omega
            clear eK eaq
            have hc0 : w5.cell? ⟨gd, 0, none⟩ = some (.int .i64 d.kd) := by have h := HRd5.out 0 _ HC0.out.1; simpa using h
            have hc12 : w5.cell? ⟨gd, 12, none⟩ = some (.int .i64 d.a) := by have h := HRd5.out 12 _ HC0.out.2.1; simpa using h
            have ldd : gd < w5.heap.size := World.block_lt_of_cell? _ _ hc0
            obtain ⟨jj, ej⟩ : ∃ j, jointOf d = j := ⟨_, rfl⟩
            have HJI := hid (jointOf_i HDI.out.1)
            have HJO0 := djoint_c d HDI.out.1 w5
            rw [ej] at HST HJI HJO0
            rw [HCS.out] at HJO0
            clear ej
            obtain ⟨jid, ja, jb, jax, jay, jtx, jty, jln⟩ := jj
            have HJO : Hid (Calls Try.prog 7 #[.agg cs.toArray] w5 fun e v => e = .returned (.agg #[.int .i64 jid, .int .i64 ja, .int .i64 jb, .int .i64 jax, .int .i64 jay, .int .i64 jtx, .int .i64 jty, .int .i64 jln]) ∧ Made w5.heap.size w5 v) := HJO0
            clear HJO0
            go_upto_block 2 with fail
            go_cut [6, 7] (fun s6 s7 wx => ∃ (nx' fr' : Int) (DB' DJ' : DataW Unit), s6 = .int .i64 nx' ∧ s7 = .int .i64 fr' ∧ Hid ((Made w.heap.size w wx ∧ WV (fun b => b = gw ∨ b = gB ∨ b = gJ) wx gw P' ∧ POk P' ∧ Small P' (k + 1) ∧ (P'.nb = nx' ∧ P'.nj = fr')) ∧ (wx.ownsMap Try.prog 3 (plainElem (H := Unit) Try.prog 3) gB (k + 1) DB' ∧ BodM DB' (ids P'.B)) ∧ wx.ownsMap Try.prog 3 pairElem gJ (k + 1) DJ' ∧ JoM DJ' P'.J))
            case first =>
              by_cases hK : K = 4 ∨ K = 5
              · as_aux_lemma =>
                obtain ⟨q4, hq4⟩ : ∃ q, (K == 4) = q := ⟨_, rfl⟩
                go_upto_if 90 with fail
                go_cut [90] (fun s90 wx => s90 = .bool true ∧ w5 = wx)
                case first =>
                  rcases hK with hK' | hK'
                  · have e : q4 = true := by rw [← hq4, hK']; rfl
                    subst e
                    go_wp2_with fail
                    go_meet
                    exact ⟨rfl, rfl⟩
                  · have e : q4 = false := by rw [← hq4, hK']; rfl
                    have e5 : (K == 5) = true := by rw [hK']; rfl
                    subst e
                    go_wp2_with fail
                    go_meet
                    exact ⟨rfl, rfl⟩
                case rest =>
                  obtain ⟨rfl, rfl⟩ := hcut
                  obtain ⟨rfl, HA⟩ := stepJ HST.out hK
                  have HA := hid HA
                  go_wp2_with (refine wpList_load_mid rfl 45 (.tmp 9) rfl gd 0 rfl cs _ HRd5.out Try.underlying45 rfl (by rw [HLEN.out]; kernel_rfl) ?_)
                  refine HJO.out.mono ?_
                  rintro e w6 ⟨rfl, k6⟩
                  have K6 := hid (K5.out.then_ (k6.low K5.out.1.size))
                  have HV6 := hid (WVar.kept HV5.out k6)
                  have HoB6 : Hid (w6.ownsMap Try.prog 3 (plainElem (H := Unit) Try.prog 3) gB k DB) := ownsMap_but (X := Nil0) HoB5.out (Made.but k6) (fun h => h.elim)
                  have HoJ6 : Hid (w6.ownsMap Try.prog 3 pairElem gJ k DJ) := ownsMap_but (X := Nil0) HoJ5.out (Made.but k6) (fun h => h.elim)
                  clear k6 HJO
                  obtain ⟨W7, eW7⟩ : ∃ V, V = w6.alloc (.cells #[.int .i64 jid, .int .i64 ja, .int .i64 jb, .int .i64 jax, .int .i64 jay, .int .i64 jtx, .int .i64 jty, .int .i64 jln] 51) := ⟨_, rfl⟩
                  have k7 : Made w6.heap.size w6 W7 := by rw [eW7]; exact (Made.rfl_ _ _).cells (Nat.le_refl _) _ _
                  have HJ7 : Hid (Has W7 w6.heap.size 51 #[.int .i64 jid, .int .i64 ja, .int .i64 jb, .int .i64 jax, .int .i64 jay, .int .i64 jtx, .int .i64 jty, .int .i64 jln]) := by unfold Hid; rw [eW7]; exact has_new _ _ _
                  obtain ⟨gj, egj⟩ : ∃ g, w6.heap.size = g := ⟨_, rfl⟩
                  rw [egj] at HJ7
                  go_upto_region 24 with fail
                  rw [← eW7]
                  clear eW7
                  try rw [egj]
                  have K7 := hid (K6.out.then_ (k7.low K6.out.1.size))
                  have HV7 := hid (WVar.kept HV6.out k7)
                  have HoB7 : Hid (W7.ownsMap Try.prog 3 (plainElem (H := Unit) Try.prog 3) gB k DB) := ownsMap_but (X := Nil0) HoB6.out (Made.but k7) (fun h => h.elim)
                  have HoJ7 : Hid (W7.ownsMap Try.prog 3 pairElem gJ k DJ) := ownsMap_but (X := Nil0) HoJ6.out (Made.but k7) (fun h => h.elim)
                  clear k7 egj HV6 HoB6 HoJ6 K6
                  have j0 := HJ7.out.at_ 0
                  have j1 := HJ7.out.at_ 1
                  have j2 := HJ7.out.at_ 2
                  have j3 := HJ7.out.at_ 3
                  have j4 := HJ7.out.at_ 4
                  have j5 := HJ7.out.at_ 5
                  have j6 := HJ7.out.at_ 6
                  have j7 := HJ7.out.at_ 7
                  simp at j0 j1 j2 j3 j4 j5 j6 j7
                  have lj : gj < W7.heap.size := HJ7.out.here
                  obtain ⟨r, hr⟩ := a_bool (JointP (⟨jid, ja, jb, jax, jay, jtx, jty, jln⟩ : Jt))
                  have HJn := hid (joins_c (⟨jid, ja, jb, jax, jay, jtx, jty, jln⟩ : Jt) r W7 hr)
                  have HR := hid hr
                  clear hr
                  go_wp2_with fail
                  refine HJn.out.mono ?_
                  rintro e w8 ⟨rfl, k8⟩
                  have HJ8 := hid (HJ7.out.stays k8 HJ7.out.here)
                  have K8 := hid (K7.out.then_ (k8.low K7.out.1.size))
                  have HV8 := hid (WVar.kept HV7.out k8)
                  have HoB8 : Hid (w8.ownsMap Try.prog 3 (plainElem (H := Unit) Try.prog 3) gB k DB) := ownsMap_but (X := Nil0) HoB7.out (Made.but k8) (fun h => h.elim)
                  have HoJ8 : Hid (w8.ownsMap Try.prog 3 pairElem gJ k DJ) := ownsMap_but (X := Nil0) HoJ7.out (Made.but k8) (fun h => h.elim)
                  clear k8 HJn HV7 HoB7 HoJ7 K7 HJ7 j0 j1 j2 j3 j4 j5 j6 j7 lj
                  have j0 := HJ8.out.at_ 0
                  have j1 := HJ8.out.at_ 1
                  have j2 := HJ8.out.at_ 2
                  have j3 := HJ8.out.at_ 3
                  have j4 := HJ8.out.at_ 4
                  have j5 := HJ8.out.at_ 5
                  have j6 := HJ8.out.at_ 6
                  have j7 := HJ8.out.at_ 7
                  simp at j0 j1 j2 j3 j4 j5 j6 j7
                  have lj : gj < w8.heap.size := HJ8.out.here
                  go_upto_if 97 with fail
                  rcases HA.out with ⟨h1, rfl, rfl, rfl⟩ | ⟨h1, h2, rfl, rfl, rfl⟩ | ⟨h1, h2, h3, _⟩ | ⟨h1, h2, h3, h4, hn', rfl, rfl⟩
                  · have e : r = false := Bool.eq_false_iff.2 fun e => h1 (HR.out.1 e)
                    subst e
                    clear h1
                    go_wp2_with fail
                    go_meet
                    exact ⟨nx, fr, DB, DJ, rfl, rfl, ⟨K8.out, HV8.out, HP5.out, HSm5.out, HNx.out⟩, ⟨HoB8.out.mono (by omega), HmB.out⟩, HoJ8.out.mono (by omega), HmJ.out⟩
                  · have e : r = true := HR.out.2 h1
                    subst e
                    by_cases ha : ja ∈ ids P'.B
                    · have hb : jb ∉ ids P'.B := fun hb => h2 ⟨ha, hb⟩
                      have l1 := lookB1 HoB8.out HmB.out HJI.out.2.1 ha
                      have l2 := lookB0 HoB8.out HmB.out HJI.out.2.2.1 hb
                      clear h1 h2 ha hb
                      go_wp2_with fail
                      go_meet
                      exact ⟨nx, fr, DB, DJ, rfl, rfl, ⟨K8.out, HV8.out, HP5.out, HSm5.out, HNx.out⟩, ⟨HoB8.out.mono (by omega), HmB.out⟩, HoJ8.out.mono (by omega), HmJ.out⟩
                    · have l1 := lookB0 HoB8.out HmB.out HJI.out.2.1 ha
                      clear h1 h2 ha
                      go_wp2_with fail
                      go_meet
                      exact ⟨nx, fr, DB, DJ, rfl, rfl, ⟨K8.out, HV8.out, HP5.out, HSm5.out, HNx.out⟩, ⟨HoB8.out.mono (by omega), HmB.out⟩, HoJ8.out.mono (by omega), HmJ.out⟩
                  · exact absurd HSm.out (fun h => by have := h.2.2.1; have := h.2.2.2.2; omega)
                  · have e : r = true := HR.out.2 h1
                    subst e
                    have l1 := lookB1 HoB8.out HmB.out HJI.out.2.1 h2.1
                    have l2 := lookB1 HoB8.out HmB.out HJI.out.2.2.1 h2.2
                    have efr : P.nj = fr := HNx.out.2
                    have hfr0 : 1 ≤ fr := by rw [← efr]; exact HPk.out.hJ.num.1
                    have hfr1 : fr ≤ 40 := by rw [← efr]; have := HSm.out.2.2.2.2; omega
                    obtain ⟨fr1, efr1⟩ : ∃ z, fr + 1 = z := ⟨_, rfl⟩
                    have HN2 : Hid (P.nj + 1 = fr1) := by unfold Hid; rw [efr]; exact efr1
                    have HNot : Hid (fr ∉ P.J.map (·.id)) := fun hm => by have := (HPk.out.hJ.num.2.2.2 fr hm).2; omega
                    have HFr := hid efr
                    have efn : fr = n' := (hn'.trans efr).symm
                    clear h1 h2 h3 h4 hn' efr
                    subst efn
                    go_upto_region 32 with fail
                    go_wp2_with (at_mapUpdate; refine wpList_mapUpdate_in _ rfl _ _ _ 34 rfl 3 54 lawI Try.underlying34 pairElem gJ k DJ rfl HoJ8.out (by unfold maxLen; omega) _ _ (ik fr) rfl rfl (keyI (by unfold I64; omega)) _ [] (pairElem_mk _ _) ?_; intro w9 hown9 hturn9)
                    go_meet
                    have kb9 := mapTurned_but hturn9
                    refine ⟨nx, fr1, DB, _, rfl, rfl, ⟨But.made_ K8.out kb9 K8.out.1.size (fun b hb => by have hb : b = gJ := hb; have h1 := HlB.out; omega), WVar.but HV8.out kb9 (fun b hb => .inr (.inr hb)) (by show ¬ gw = gJ; omega), HP5.out, HSm5.out, HNx.out.1, HN2.out⟩, ⟨(ownsMap_but HoB8.out kb9 (by show ¬ gB = gJ; omega)).mono (by omega), HmB.out⟩, hown9, ?_⟩
                    have h := HmJ.out.put (newJ P.nj (⟨jid, ja, jb, jax, jay, jtx, jty, jln⟩ : Jt)) (by show P.nj ∉ _; rw [HFr.out]; exact HNot.out)
                    rw [HFr.out] at h ⊢
                    exact h
              · by_cases hK6 : K = 6
                · as_aux_lemma =>
                  subst hK6
                  obtain ⟨rfl, rfl, hR⟩ := step6 HST.out rfl
                  have HRS := hid (rem_sets HPk.out hR)
                  obtain ⟨cq, hl, hcq⟩ := lookB HoB5.out HmB.out HIa.out
                  have hdc : decide (0 < cq) = gone := by
                    have h1 := HRS.out.2.2.2
                    rcases hcq with ⟨h2, rfl⟩ | ⟨h2, rfl⟩
                    · rw [h1.2 h2]; rfl
                    · rw [Bool.eq_false_iff.2 fun e => h2 (h1.1 e)]; rfl
                  clear hR hcq
                  go_upto_region 38 with fail
                  go_upto_region 39 with (at_delete; refine wpList_delete_own _ rfl _ _ 33 3 rfl 3 lawI Try.underlying33 _ gB k DB rfl HoB5.out _ _ rfl (keyI HIa.out) ?_; intro w6 hown6 hturn6)
                  have kb6 := mapTurned_but hturn6
                  have K6 : Hid (Made w.heap.size w w6) := But.made_ K5.out kb6 K5.out.1.size (fun b hb => by have hb : b = gB := hb; have h1 := HlB.out; omega)
                  have HV6 : Hid (WV (fun b => b = gw ∨ b = gB ∨ b = gJ) w6 gw P') := WVar.but HV5.out kb6 (fun b hb => .inr (.inl hb)) (by show ¬ gw = gB; omega)
                  have HoJ6 : Hid (w6.ownsMap Try.prog 3 pairElem gJ k DJ) := ownsMap_but HoJ5.out kb6 (by show ¬ gJ = gB; omega)
                  have HoB6 := hid hown6
                  obtain ⟨gr, egr⟩ : ∃ g, w6.heap.size = g := ⟨_, rfl⟩
                  have hgr : gw < gr ∧ gB < gr ∧ gJ < gr ∧ w.heap.size ≤ gr := by have h1 := WVar.here HV6.out; have h2 := HoB6.out.lt; have h3 := HoJ6.out.lt; have h4 := K6.out.1.size; omega
                  clear hown6 hturn6 kb6 hl hdc HV5 HoB5 HoJ5 K5 HS5 HRd5 hc0 hc12 ldd HJO
                  go_wp2_with (at_range; refine wpList_range_own _ rfl _ 34 rfl 3 54 lawI Try.underlying34 pairElem gJ k DJ rfl HoJ6.out ?_; intro w7 hrg0 hg0 hs0)
                  go_frame
                  have kb7 : But Nil0 w6 w7 := but_range hrg0 hg0 hs0
                  have HK7 := hid kb7
                  rw [egr] at hrg0 ⊢
                  clear kb7 hg0 hs0
                  go_loopw [16] (fun _ wr => ∃ (left : Lit → Bool) (cnt : Nat) (D : DataW Unit), wr.ranges Try.prog 3 pairElem gJ gr k D left cnt ∧ Hid (JoM D (leftJ aq left P.J) ∧ But (fun g => g = gJ ∨ g = gr) w7 wr)) (fun _ wr => wr.rangeLeft gJ gr)
                  case atStart => exact ⟨_, _, DJ, hrg0, HmJ.out.of (leftJ_all fun j hj => (HmJ.out.has j.id).2 ⟨j, hj, rfl⟩).symm, But.rfl_ _ _⟩
                  case round =>
                    obtain ⟨left, cnt, D, hrg, HB⟩ := hrel
                    go_wp2_with (at_next; refine wpList_next_ranges _ rfl _ rfl 3 lawI pairElem (Value.int .i64) pairV invK invV gJ gr k D left cnt rfl hrg ?_ ?_)
                    · intro hc0 hl0
                      go_wp2_with fail
                      go_meet
                      have hb := HK7.out.any.then_ HB.out.2
                      have hb' : But (fun g => g = gJ) w6 wr := hb.up (fun b hlt hx => by rcases hx with hx | hx; exact hx; omega)
                      have hJl := HB.out.1
                      rw [leftJ_none hl0, ← HRS.out.2.1] at hJl
                      refine ⟨nx, fr, _, D, rfl, rfl, ⟨But.made_ K6.out hb' K6.out.1.size (fun b hb => by have hb : b = gJ := hb; have h1 := HlB.out; omega), WVar.but HV6.out hb' (fun b hb => .inr (.inr hb)) (by show ¬ gw = gJ; omega), HP5.out, HSm5.out, by rw [HRS.out.2.2.1.1, HRS.out.2.2.1.2]; exact HNx.out⟩, ⟨(ownsMap_but HoB6.out hb' (by show ¬ gB = gJ; omega)).mono (by omega), ?_⟩, hrg.owns.mono (by omega), hJl⟩
                      rw [HRS.out.1]
                      exact HmB.out.del aq
                    · intro x p1 p2 kl y1 y2 w8 cnt8 hkey hlk hv hat hrg8 hlt8 hg8 hs8 hen0
                      obtain ⟨x', ex, ekl, hwx⟩ := Maps.keyOf_int_inv Try.underlying3 hkey
                      cases ex
                      subst ekl
                      have hex : ∃ j ∈ P.J, j.id = x ∧ j.a = p1 ∧ j.b = p2 := by
                        have hh : Maps.has D (ik x) = true := has_true_of_atKey hat
                        obtain ⟨j, hj, e⟩ := (HB.out.1.has x).1 hh
                        refine ⟨j, mem_leftJ hj, e, ?_⟩
                        have h1 := HB.out.1.at_ j hj .nil
                        rw [e, hat] at h1
                        have hv' : pairElem (.agg #[.int .i64 p1, .int .i64 p2]) = some (y1, y2) := hv
                        rw [pairElem_mk] at hv'
                        have hy : y1 = .agg [.lit (.int .i64 p1), .lit (.int .i64 p2)] := (congrArg Prod.fst (Option.some.inj hv')).symm
                        rw [hy] at h1
                        unfold pairU at h1
                        simpa [eq_comm] using h1
                      obtain ⟨j, hj, ejx, ej1, ej2⟩ := hex
                      have HJ := hid (And.intro hj (And.intro ejx (And.intro ej1 ej2)))
                      have HX := hid (wf_I64 hwx)
                      have HLK := hid hlk
                      have HLT := hid hlt8
                      have HRG := hid hrg
                      have HG8 := hid (but_next hrg hrg8 hg8 hs8)
                      have hen : (Instr.entry (.pointer (some ⟨gr, 0, none⟩))).run Try.prog w8 = .ok (.tuple #[.int .i64 x, .agg #[.int .i64 p1, .int .i64 p2]]) w8 := hen0
                      clear hen0
                      obtain ⟨W9, eW9⟩ : ∃ V, V = w8.alloc (.cells #[.int .i64 p1, .int .i64 p2] 54) := ⟨_, rfl⟩
                      have HR9 : Hid (W9.ranges Try.prog 3 pairElem gJ gr k D (fun z => left z && !z.sameKey (.int .i64 x)) cnt8) := by unfold Hid; rw [eW9]; exact hrg8.alloc _
                      have HK9 : Hid (Made w8.heap.size w8 W9) := by unfold Hid; rw [eW9]; exact (Made.rfl_ _ _).cells (Nat.le_refl _) _ _
                      have HP9 : Hid (Has W9 w8.heap.size 54 #[.int .i64 p1, .int .i64 p2]) := by unfold Hid; rw [eW9]; exact has_new _ _ _
                      clear hj ejx ej1 ej2 hwx hlk hlt8 hrg hat hv hkey hg8 hs8 hrg8
                      go_upto_region 42 with fail
                      rw [← eW9]
                      obtain ⟨gp, egp⟩ : ∃ g, w8.heap.size = g := ⟨_, rfl⟩
                      rw [egp] at HP9 ⊢
                      clear eW9 hen egp
                      have pc0 := HP9.out.at_ 0
                      have pc1 := HP9.out.at_ 1
                      simp at pc0 pc1
                      have lp : gp < W9.heap.size := HP9.out.here
                      have HGo : Hid (goneJ aq j = (p1 == aq || p2 == aq)) := by unfold Hid goneJ; rw [HJ.out.2.2.1, HJ.out.2.2.2]
                      obtain ⟨qg, eqg⟩ : ∃ q, goneJ aq j = q := ⟨_, rfl⟩
                      go_cut [170] (fun s170 wx => s170 = .bool qg ∧ W9 = wx)
                      case first =>
                        by_cases h1 : p1 = aq
                        · have e1 : (p1 == aq) = true := by simpa using h1
                          have e2 : qg = true := by rw [← eqg, HGo.out, e1]; rfl
                          subst e2
                          clear h1
                          go_wp2_with fail
                          go_meet
                          exact ⟨rfl, rfl⟩
                        · have e1 : (p1 == aq) = false := by simpa using h1
                          have e2 : (p2 == aq) = qg := by rw [← eqg, HGo.out, e1]; rfl
                          clear h1
                          go_wp2_with fail
                          go_meet
                          exact ⟨rfl, rfl⟩
                      case rest =>
                        obtain ⟨rfl, rfl⟩ := hcut
                        have HST2 := hid (leftJ_step (id := aq) (left := left) HPk.out.hJ.num.2.2.1 HJ.out.1 (by rw [HJ.out.2.1]; exact HLK.out))
                        have HB9 : Hid (But (fun g => g = gJ ∨ g = gr) w7 W9) := ((HB.out.2.then_ (HG8.out.up fun b _ hx => .inr hx)).then_ (Made.but HK9.out))
                        cases qg with
                        | true =>
                          go_wp2_with (at_delete; refine wpList_delete_ranges _ rfl _ _ 34 3 rfl 54 lawI Try.underlying34 pairElem gJ gr k D _ cnt8 rfl HR9.out _ _ rfl (keyI HX.out) ?_; intro w10 cnt10 hrg10 hle hturn10; go_frame)
                          rw [strike_twice] at hrg10
                          go_roundw
                          case rel =>
                            refine ⟨_, cnt10, _, hrg10, (HB.out.1.del x).of ?_, HB9.out.then_ ((mapTurned_but hturn10).up fun b _ hx => .inl hx)⟩
                            have h := HST2.out.1 eqg
                            rw [HJ.out.2.1] at h
                            exact h.symm
                          case measure => rw [hrg10.left_eq, HRG.out.left_eq]; have := HLT.out; omega
                        | false =>
                          go_wp2_with fail
                          go_roundw
                          case rel =>
                            refine ⟨_, cnt8, D, HR9.out, HB.out.1.of ?_, HB9.out⟩
                            have h := HST2.out.2 eqg
                            rw [HJ.out.2.1] at h
                            exact h.symm
                          case measure => rw [HR9.out.left_eq, HRG.out.left_eq]; exact HLT.out
                · by_cases hK3 : K = 3
                  · as_aux_lemma =>
                    subst hK3
                    obtain ⟨rfl, rfl, hR⟩ := step3 HST.out rfl
                    have HRS := hid (remJ_sets hR)
                    obtain ⟨xx, yy, hl⟩ := lookJ HoJ5.out HmJ.out HIa.out HRS.out.2.2.2
                    obtain ⟨W6, eW6⟩ : ∃ V, V = w5.alloc (.cells #[.int .i64 xx, .int .i64 yy] 54) := ⟨_, rfl⟩
                    have k6 : Made w5.heap.size w5 W6 := by rw [eW6]; exact (Made.rfl_ _ _).cells (Nat.le_refl _) _ _
                    have K6 := hid (K5.out.then_ (k6.low K5.out.1.size))
                    have HV6 := hid (WVar.kept HV5.out k6)
                    have HoB6 : Hid (W6.ownsMap Try.prog 3 (plainElem (H := Unit) Try.prog 3) gB k DB) := ownsMap_but (X := Nil0) HoB5.out (Made.but k6) (fun h => h.elim)
                    have HoJ6 : Hid (W6.ownsMap Try.prog 3 pairElem gJ k DJ) := ownsMap_but (X := Nil0) HoJ5.out (Made.but k6) (fun h => h.elim)
                    have HR6 : Hid (W6.rangeAt gd 0 cs) := fun j v hv => k6.reads (HRd5.out j v hv)
                    clear hR k6
                    go_upto_region 46 with fail
                    rw [← eW6]
                    clear eW6 hl hc0 hc12 ldd
                    have hc12 : W6.cell? ⟨gd, 12, none⟩ = some (.int .i64 d.a) := by have h := HR6.out 12 _ HC0.out.2.1; simpa using h
                    have ldd : gd < W6.heap.size := World.block_lt_of_cell? _ _ hc12
                    go_upto_region 48 with fail
                    go_wp2_with (at_delete; refine wpList_delete_own _ rfl _ _ 34 3 rfl 54 lawI Try.underlying34 pairElem gJ k DJ rfl HoJ6.out _ _ rfl (keyI HIa.out) ?_; intro w7 hown7 hturn7; go_frame)
                    go_meet
                    have kb7 := mapTurned_but hturn7
                    refine ⟨nx, fr, DB, _, rfl, rfl, ⟨But.made_ K6.out kb7 K6.out.1.size (fun b hb => by have hb : b = gJ := hb; have h1 := HlB.out; omega), WVar.but HV6.out kb7 (fun b hb => .inr (.inr hb)) (by show ¬ gw = gJ; omega), HP5.out, HSm5.out, by rw [HRS.out.2.2.1.1, HRS.out.2.2.1.2]; exact HNx.out⟩, ⟨(ownsMap_but HoB6.out kb7 (by show ¬ gB = gJ; omega)).mono (by omega), by rw [HRS.out.1]; exact HmB.out⟩, hown7.mono (by omega), by rw [HRS.out.2.1]; exact HmJ.out.del aq⟩
                  · as_aux_lemma =>
                    have hKn : ¬ (K = 3 ∨ K = 4 ∨ K = 5 ∨ K = 6) := by omega
                    obtain ⟨rfl, HA⟩ := stepB HST.out hKn
                    have HA := hid HA
                    have n3 : (K == 3) = false := by simp; omega
                    have n4 : (K == 4) = false := by simp; omega
                    have n5 : (K == 5) = false := by simp; omega
                    have n6 : (K == 6) = false := by simp; omega
                    have HBO := hid (HBD.out.2 w5 HS5.out)
                    rw [HCS.out] at HBO
                    have HBi := hid HBD.out.1
                    have HAny := hid (fun (ao : Option Addr) (c : Nat) => body_any (b := bd) ao c)
                    clear HBD HST hKn hK hK6 hK3
                    obtain ⟨bid, bx, b_y, bvx, bvy, ban, bsp, bde, bk, br, bao, bn, bc, bf⟩ := bd
                    go_wp2_with (refine wpList_load_mid rfl 45 (.tmp 9) rfl gd 0 rfl cs _ HRd5.out Try.underlying45 rfl (by rw [HLEN.out]; kernel_rfl) ?_)
                    refine HBO.out.mono ?_
                    rintro e w6 ⟨ao', c', rfl, hsl, hok, k6⟩
                    have K6 := hid (K5.out.then_ (k6.low K5.out.1.size))
                    have HV6 := hid (WVar.kept HV5.out k6)
                    have HoB6 : Hid (w6.ownsMap Try.prog 3 (plainElem (H := Unit) Try.prog 3) gB k DB) := ownsMap_but (X := Nil0) HoB5.out (Made.but k6) (fun h => h.elim)
                    have HoJ6 : Hid (w6.ownsMap Try.prog 3 pairElem gJ k DJ) := ownsMap_but (X := Nil0) HoJ5.out (Made.but k6) (fun h => h.elim)
                    obtain ⟨r, hr⟩ := a_bool (BodyP ⟨bid, bx, b_y, bvx, bvy, ban, bsp, bde, bk, br, ao', bn, c', bf⟩)
                    have HR := hid (hr.trans (HAny.out ao' c'))
                    have HMy := hid (may_c bid bx b_y bvx bvy ban bsp bde bk br ao' bn c' bf r w6 hsl ⟨HBi.out.id, HBi.out.x, HBi.out.y, HBi.out.vx, HBi.out.vy, HBi.out.an, HBi.out.sp, HBi.out.de, HBi.out.k, HBi.out.r, HBi.out.f⟩ hr)
                    clear hr hsl hok k6 HBO HBi
                    go_wp2_with fail
                    refine HMy.out.mono ?_
                    rintro e w7 ⟨rfl, k7⟩
                    have K7 := hid (K6.out.then_ (k7.low K6.out.1.size))
                    have HV7 := hid (WVar.kept HV6.out k7)
                    have HoB7 : Hid (w7.ownsMap Try.prog 3 (plainElem (H := Unit) Try.prog 3) gB k DB) := ownsMap_but (X := Nil0) HoB6.out (Made.but k7) (fun h => h.elim)
                    have HoJ7 : Hid (w7.ownsMap Try.prog 3 pairElem gJ k DJ) := ownsMap_but (X := Nil0) HoJ6.out (Made.but k7) (fun h => h.elim)
                    clear k7 HMy HV6 HoB6 HoJ6 K6
                    rcases HA.out with ⟨h1, rfl, rfl, rfl⟩ | ⟨h1, h2, _⟩ | ⟨h1, h2, h3, hn', rfl, ao2, c2, hP'⟩
                    · have e : r = false := Bool.eq_false_iff.2 fun e => h1 (HR.out.1 e)
                      subst e
                      clear h1
                      go_wp2_with fail
                      go_meet
                      exact ⟨nx, fr, DB, DJ, rfl, rfl, ⟨K7.out, HV7.out, HP5.out, HSm5.out, HNx.out⟩, ⟨HoB7.out.mono (by omega), HmB.out⟩, HoJ7.out.mono (by omega), HmJ.out⟩
                    · exact absurd HSm.out (fun h => by have := h.2.1; have := h.2.2.2.1; omega)
                    · have e : r = true := HR.out.2 h1
                      subst e
                      have HP' := hid hP'
                      have enx : P.nb = nx := HNx.out.1
                      have hnx0 : 1 ≤ nx := by rw [← enx]; exact HPk.out.hB.num.1
                      have hnx1 : nx ≤ 40 := by rw [← enx]; have := HSm.out.2.2.2.1; omega
                      obtain ⟨nx1, enx1⟩ : ∃ z, nx + 1 = z := ⟨_, rfl⟩
                      have HN2 : Hid (P.nb + 1 = nx1) := by unfold Hid; rw [enx]; exact enx1
                      have HNb := hid enx
                      have efn : nx = n' := (hn'.trans enx).symm
                      clear h1 h2 h3 hP' hn' enx
                      subst efn
                      go_upto_region 19 with fail
                      go_wp2_with (at_mapUpdate; refine wpList_mapUpdate_in _ rfl _ _ _ 33 rfl 3 3 lawI Try.underlying33 _ gB k DB rfl HoB7.out (by unfold maxLen; omega) _ _ (ik nx) rfl rfl (keyI (by unfold I64; omega)) oneU [] (plainElem_int Try.underlying3 (by decide)) ?_; intro w9 hown9 hturn9)
                      go_meet
                      have kb9 := mapTurned_but hturn9
                      refine ⟨nx1, fr, _, DJ, rfl, rfl, ⟨But.made_ K7.out kb9 K7.out.1.size (fun b hb => by have hb : b = gB := hb; have h1 := HlB.out; omega), WVar.but HV7.out kb9 (fun b hb => .inr (.inl hb)) (by show ¬ gw = gB; omega), HP5.out, HSm5.out, by rw [HP'.out]; exact ⟨HN2.out, HNx.out.2⟩⟩, ⟨hown9, ?_⟩, (ownsMap_but HoJ7.out kb9 (by show ¬ gJ = gB; omega)).mono (by omega), by rw [HP'.out]; exact HmJ.out⟩
                      rw [HP'.out]
                      show BodM _ (ids (P.B ++ [newB P.nb _ ao2 c2]))
                      rw [ids_snoc]
                      show BodM _ (ids P.B ++ [P.nb])
                      rw [HNb.out]
                      exact HmB.out.put nx
            case rest =>
              as_aux_lemma =>
                obtain ⟨nx2, fr2, DB2, DJ2, rfl, rfl, HB⟩ := hcut
                have K6 := hid HB.out.1.1
                have HV6 := hid HB.out.1.2.1
                have HN6 := hid HB.out.1.2.2.2.2
                have HoB6 := hid HB.out.2.1.1
                have HmB6 := hid HB.out.2.1.2
                have HoJ6 := hid HB.out.2.2.1
                have HmJ6 := hid HB.out.2.2.2
                clear HB HoB5 HoJ5 HV5 K5 HS5 HRd5 hc0 hc12 ldd HJO HST HmB HmJ HNx aK aA
                obtain ⟨ob6, oj6, oc6, cb6, cj6, cc6, hH6, hL6⟩ := HV6.out
                have HL6 := hid hL6
                have HH6 := hid hH6
                obtain ⟨nB6, eB6⟩ : ∃ m, (P').B.length = m := ⟨_, rfl⟩
                obtain ⟨nJ6, eJ6⟩ : ∃ m, (P').J.length = m := ⟨_, rfl⟩
                obtain ⟨nC6, eC6⟩ : ∃ m, (P').C.length = m := ⟨_, rfl⟩
                obtain ⟨nb6, eb6⟩ : ∃ m, (P').nb = m := ⟨_, rfl⟩
                obtain ⟨nj6, ej6⟩ : ∃ m, (P').nj = m := ⟨_, rfl⟩
                rw [eB6, eJ6, eC6, eb6, ej6] at HH6
                have HE6 := hid (And.intro eB6 (And.intro eJ6 (And.intro eC6 (And.intro eb6 ej6))))
                clear hH6 hL6 eB6 eJ6 eC6 eb6 ej6
                have b0 := HH6.out.at_ 0
                have b1 := HH6.out.at_ 1
                have b2 := HH6.out.at_ 2
                have b3 := HH6.out.at_ 3
                have b4 := HH6.out.at_ 4
                have b5 := HH6.out.at_ 5
                have b6 := HH6.out.at_ 6
                have b7 := HH6.out.at_ 7
                simp at b0 b1 b2 b3 b4 b5 b6 b7
                have lt6 : gw < wc.heap.size := HH6.out.here
                have HsB : Hid (Maps.size DB2 = nB6) := by
                  unfold Hid
                  rw [HmB6.out.km.size (HoB6.out.canon lawI) (nodup_up HP5.out.hB.num.2.2.1), ← HE6.out.1]
                  exact List.length_map ..
                have HsJ : Hid (Maps.size DJ2 = nJ6) := by
                  unfold Hid
                  rw [HmJ6.out.km.size (HoJ6.out.canon lawI) (nodup_up HP5.out.hJ.num.2.2.1), ← HE6.out.2.1]
                  exact List.length_map ..
                have hnx : nb6 = nx2 := HE6.out.2.2.2.1.symm.trans HN6.out.1
                have hfr : nj6 = fr2 := HE6.out.2.2.2.2.symm.trans HN6.out.2
                subst hnx hfr
                have HRt := hid (right_yes HL6.out HP5.out HE6.out (by rw [HSm5.out.1]; simp))
                go_wp2_with fail
                refine HRt.out.mono ?_
                rintro e w7 ⟨rfl, k7⟩
                have K7 := hid (K6.out.then_ (k7.low K6.out.1.size))
                have HV7 := hid (WVar.kept HV6.out k7)
                have HH7 := hid (HH6.out.stays k7 HH6.out.here)
                have HoB7' : Hid (w7.ownsMap Try.prog 3 (plainElem (H := Unit) Try.prog 3) gB (k + 1) DB2) := ownsMap_but (X := Nil0) HoB6.out (Made.but k7) (fun h => h.elim)
                have HoJ7' : Hid (w7.ownsMap Try.prog 3 pairElem gJ (k + 1) DJ2) := ownsMap_but (X := Nil0) HoJ6.out (Made.but k7) (fun h => h.elim)
                clear b0 b1 b2 b3 b4 b5 b6 b7 lt6 k7 HRt
                have b0 := HH7.out.at_ 0
                have b1 := HH7.out.at_ 1
                have b2 := HH7.out.at_ 2
                have b3 := HH7.out.at_ 3
                have b4 := HH7.out.at_ 4
                have b5 := HH7.out.at_ 5
                have b6 := HH7.out.at_ 6
                have b7 := HH7.out.at_ 7
                simp at b0 b1 b2 b3 b4 b5 b6 b7
                have lt7 : gw < w7.heap.size := HH7.out.here
                have lnB : ∀ ty, (Builtin.len_ #[33] ty #[.map (some gB)]).run Try.prog w7 = .ok (.int .i64 (nB6 : Nat)) w7 := fun ty => by
                  have h := HoB7'.out.len Try.underlying33 ty
                  rwa [HsB.out] at h
                have lnJ : ∀ ty, (Builtin.len_ #[34] ty #[.map (some gJ)]).run Try.prog w7 = .ok (.int .i64 (nJ6 : Nat)) w7 := fun ty => by
                  have h := HoJ7'.out.len Try.underlying34 ty
                  rwa [HsJ.out] at h
                go_wp2_with fail
                go_roundg (nl - (k + 1))
                case measure => omega
                case rel => exact ⟨k + 1, P', nb6, nj6, DB2, DJ2, by omega, by go_num, rfl, rfl, ⟨K7.out, HV7.out, HP5.out, HSm5.out, HN6.out⟩, ⟨HoB7'.out, HmB6.out⟩, HoJ7'.out, HmJ6.out⟩
        · as_aux_lemma =>
            have hkn : k = nl := by omega
            subst hkn
            have K1 := hid HB.out.1.1
            have HV1 := hid HB.out.1.2.1
            have HP1 := hid HB.out.1.2.2.1
            have HS1 := hid HB.out.1.2.2.2.1
            have HN1 := hid HB.out.1.2.2.2.2
            have HoB1 := hid HB.out.2.1.1
            have HmB1 := hid HB.out.2.1.2
            have HoJ1 := hid HB.out.2.2.1
            have HmJ1 := hid HB.out.2.2.2
            have hnx0 : 1 ≤ nx := by rw [← HN1.out.1]; exact HP1.out.hB.num.1
            have hnx1 : nx ≤ 40 := by rw [← HN1.out.1]; have := HS1.out.2.2.2.1; omega
            obtain ⟨nx2, enx2⟩ : ∃ z, nx + 2 = z := ⟨_, rfl⟩
            obtain ⟨M, eM⟩ : ∃ M : Nat, nx + 3 = M := ⟨(nx + 3).toNat, by omega⟩
            clear HB
            go_wp2_with fail
            go_loopg [21, 22, 23, 24, 25, 26, 27] M (fun gg s21 s22 s23 s24 s25 s26 s27 wx => ∃ i : Nat, i + gg = M ∧ s21 = .int .i64 ((i : Int) - 1) ∧ Hid (Made wr.heap.size wr wx))
            case atStart => exact ⟨0, by omega, rfl, Made.rfl_ _ _⟩
            case round =>
              obtain ⟨i, hi, rfl, HM⟩ := hrel
              have K2 := hid (K1.out.then_ (HM.out.low K1.out.1.size))
              have HV2 := hid (WVar.kept HV1.out HM.out)
              have HoB2 : Hid (wr.ownsMap Try.prog 3 (plainElem (H := Unit) Try.prog 3) gB k DB) := ownsMap_but (X := Nil0) HoB1.out (Made.but HM.out) (fun h => h.elim)
              have HoJ2 : Hid (wr.ownsMap Try.prog 3 pairElem gJ k DJ) := ownsMap_but (X := Nil0) HoJ1.out (Made.but HM.out) (fun h => h.elim)
              obtain ⟨id, eid⟩ : ∃ z, (i : Int) - 1 = z := ⟨_, rfl⟩
              have EID := hid eid
              have hid0 : -1 ≤ id ∧ id ≤ 50 := by omega
              have HId : Hid (I64 id) := by unfold Hid I64; omega
              rw [eid]
              clear eid
              by_cases hlt : id < nx2
              · have hbt : decide (id < nx2) = true := decide_eq_true hlt
                have hgg : i < M := by have := EID.out; omega
                obtain ⟨ob2, oj2, oc2, cb2, cj2, cc2, hH2, hL2⟩ := HV2.out
                have HL2 := hid hL2
                have HH2 := hid hH2
                obtain ⟨nB2, eB2⟩ : ∃ m, (P).B.length = m := ⟨_, rfl⟩
                obtain ⟨nJ2, eJ2⟩ : ∃ m, (P).J.length = m := ⟨_, rfl⟩
                obtain ⟨nC2, eC2⟩ : ∃ m, (P).C.length = m := ⟨_, rfl⟩
                obtain ⟨nb2, eb2⟩ : ∃ m, (P).nb = m := ⟨_, rfl⟩
                obtain ⟨nj2, ej2⟩ : ∃ m, (P).nj = m := ⟨_, rfl⟩
                rw [eB2, eJ2, eC2, eb2, ej2] at HH2
                have HE2 := hid (And.intro eB2 (And.intro eJ2 (And.intro eC2 (And.intro eb2 ej2))))
                clear hH2 hL2 eB2 eJ2 eC2 eb2 ej2
                have b0 := HH2.out.at_ 0
                have b1 := HH2.out.at_ 1
                have b2 := HH2.out.at_ 2
                have b3 := HH2.out.at_ 3
                have b4 := HH2.out.at_ 4
                have b5 := HH2.out.at_ 5
                have b6 := HH2.out.at_ 6
                have b7 := HH2.out.at_ 7
                simp at b0 b1 b2 b3 b4 b5 b6 b7
                have lt2 : gw < wr.heap.size := HH2.out.here
                have HBd := hid (wbody_c 0 nb2 nj2 0 0 oj2 oc2 nJ2 cj2 nC2 cc2 (c := cb2) id HE2.out.1 (by have := HP1.out.hB.len; have := HE2.out.1; omega) HL2.out.at_.lB HP1.out.hB.num.2.2.1)
                go_wp2_with fail
                refine HBd.out.mono ?_
                rintro e w3 ⟨i1, r1, rfl, k3, h1, h2⟩
                have HM3 := hid (HM.out.then_ (k3.low HM.out.1.size))
                have HH3 := hid (HH2.out.stays k3 HH2.out.here)
                have HL3 := hid (HL2.out.kept k3)
                have HR1 := hid (And.intro h1 h2)
                clear b0 b1 b2 b3 b4 b5 b6 b7 lt2 k3 h1 h2 HBd
                have b0 := HH3.out.at_ 0
                have b1 := HH3.out.at_ 1
                have b2 := HH3.out.at_ 2
                have b3 := HH3.out.at_ 3
                have b4 := HH3.out.at_ 4
                have b5 := HH3.out.at_ 5
                have b6 := HH3.out.at_ 6
                have b7 := HH3.out.at_ 7
                simp at b0 b1 b2 b3 b4 b5 b6 b7
                have lt3 : gw < w3.heap.size := HH3.out.here
                have HJt := hid (wjoint_c 0 nb2 nj2 0 0 ob2 oc2 nB2 cb2 nC2 cc2 (c := cj2) (w := w3) id HE2.out.2.1 (by have := HP1.out.hJ.len; have := HE2.out.2.1; omega) HL3.out.at_.lJ HP1.out.hJ.num.2.2.1)
                go_wp2_with fail
                refine HJt.out.mono ?_
                rintro e w4 ⟨i2, r2, rfl, k4, h3, h4⟩
                have HM4 := hid (HM3.out.then_ (k4.low HM3.out.1.size))
                have HoJ4 : Hid (w4.ownsMap Try.prog 3 pairElem gJ k DJ) := ownsMap_but (X := Nil0) HoJ1.out (Made.but HM4.out) (fun h => h.elim)
                have HQ : Hid (r2 = true ↔ ∃ x ∈ P.J, x.id = id) := ⟨fun e => by obtain ⟨x, hx, e⟩ := h3 e; exact ⟨x, List.mem_of_getElem? hx, e⟩, fun ⟨x, hx, e⟩ => by
                  cases hq : r2 with
                  | true => rfl
                  | false => exact absurd e ((h4 hq).2 x hx)⟩
                have HR2 := hid h3
                obtain ⟨xx, yy, hl⟩ := lookJ HoJ4.out HmJ1.out HId.out HQ.out
                obtain ⟨W5, eW5⟩ : ∃ V, V = w4.alloc (.cells #[.int .i64 xx, .int .i64 yy] 54) := ⟨_, rfl⟩
                have k5 : Made w4.heap.size w4 W5 := by rw [eW5]; exact (Made.rfl_ _ _).cells (Nat.le_refl _) _ _
                have HM5 := hid (HM4.out.then_ (k5.low HM4.out.1.size))
                have HH5 := hid ((HH3.out.stays k4 HH3.out.here).stays k5 (HH3.out.stays k4 HH3.out.here).here)
                have HL5 := hid ((HL3.out.kept k4).kept k5)
                clear b0 b1 b2 b3 b4 b5 b6 b7 lt3 k4 k5 h3 h4 HJt
                go_upto_region 58 with fail
                rw [← eW5]
                clear eW5 hl
                have b0 := HH5.out.at_ 0
                have b1 := HH5.out.at_ 1
                have b2 := HH5.out.at_ 2
                have b3 := HH5.out.at_ 3
                have b4 := HH5.out.at_ 4
                have b5 := HH5.out.at_ 5
                have b6 := HH5.out.at_ 6
                have b7 := HH5.out.at_ 7
                simp at b0 b1 b2 b3 b4 b5 b6 b7
                have lt5 : gw < W5.heap.size := HH5.out.here
                have HoB5 : Hid (W5.ownsMap Try.prog 3 (plainElem (H := Unit) Try.prog 3) gB k DB) := ownsMap_but (X := Nil0) HoB1.out (Made.but HM5.out) (fun h => h.elim)
                obtain ⟨cq, hl2, hcq⟩ := lookB HoB5.out HmB1.out HId.out
                have hdc : decide (0 < cq) = r1 := by
                  rcases hcq with ⟨h2, rfl⟩ | ⟨h2, rfl⟩
                  · cases hq : r1 with
                    | true => rfl
                    | false =>
                      obtain ⟨x, hx, e⟩ := List.mem_map.1 h2
                      exact absurd e ((HR1.out.2 hq).2 x hx)
                  · cases hq : r1 with
                    | false => rfl
                    | true =>
                      obtain ⟨x, hx, e⟩ := HR1.out.1 hq
                      exact absurd (List.mem_map.2 ⟨x, List.mem_of_getElem? hx, e⟩) h2
                clear hcq
                have K5 := hid (K1.out.then_ (HM5.out.low K1.out.1.size))
                go_cut [290] (fun s290 wx => s290 = .bool false ∧ W5 = wx)
                case first =>
                  as_aux_lemma =>
                  have hJc : r2 = true → ∃ bb off, oj2 = some ⟨bb, off, none⟩ ∧ i2 < nJ2 ∧ W5.cell? ⟨bb, off + i2 * 8, none⟩ = some (.int .i64 id) := fun e => by
                    obtain ⟨y, ey, e2⟩ := HR2.out e
                    have hlt2 : i2 < nJ2 := by rw [← HE2.out.2.1]; exact (List.getElem?_eq_some_iff.1 ey).1
                    obtain ⟨bb, off, eob, _, hLB⟩ := HL5.out.at_.lJ (by rw [HE2.out.2.1]; omega)
                    exact ⟨bb, off, eob, hlt2, by rw [(hLB i2 _ ey).j8.1, e2]⟩
                  have HJc := hid hJc
                  clear hJc
                  cases r1 with
                  | false =>
                    have hi1 : i1 = 0 := (HR1.out.2 rfl).1
                    subst hi1
                    cases r2 with
                    | false =>
                      go_wp2_with fail
                      go_meet
                      exact ⟨rfl, rfl⟩
                    | true =>
                      obtain ⟨bb, off, rfl, hlt2, hcj⟩ := HJc.out rfl
                      go_wp2_with fail
                      go_meet
                      exact ⟨rfl, rfl⟩
                  | true =>
                    obtain ⟨y, ey, e2⟩ := HR1.out.1 rfl
                    have hlt1 : i1 < nB2 := by rw [← HE2.out.1]; exact (List.getElem?_eq_some_iff.1 ey).1
                    obtain ⟨bo, ofo, eob, hbl, hLB⟩ := HL5.out.at_.lB (by rw [HE2.out.1]; omega)
                    subst eob
                    have hcb := (hLB i1 _ ey).b11.1
                    rw [e2] at hcb
                    clear ey e2 hLB
                    cases r2 with
                    | false =>
                      go_wp2_with fail
                      go_meet
                      exact ⟨rfl, rfl⟩
                    | true =>
                      obtain ⟨bb, off, rfl, hlt2, hcj⟩ := HJc.out rfl
                      go_wp2_with fail
                      go_meet
                      exact ⟨rfl, rfl⟩
                case rest =>
                  obtain ⟨rfl, rfl⟩ := hcut
                  clear b0 b1 b2 b3 b4 b5 b6 b7 lt5 hl2 hdc
                  go_wp2_with fail
                  go_roundg (M - (i + 1))
                  case measure => omega
                  case rel => exact ⟨i + 1, by omega, by rw [show (((i + 1 : Nat) : Int) - 1) = id + 1 by have := EID.out; omega], HM5.out⟩
              · have hbt : decide (id < nx2) = false := decide_eq_false hlt
                go_wp2_with fail
                go_ret
                exact ⟨rfl, K2.out⟩
end Go.Proofs.Ytggpchclfikneaa.Fx
