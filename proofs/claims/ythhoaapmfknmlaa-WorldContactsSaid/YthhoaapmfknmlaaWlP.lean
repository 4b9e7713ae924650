/- WorldNumbers. -/
import Derived.Test.YthhoaapmfknmlaaWlO
namespace Go.Proofs.Ythhoaapmfknmlaa.Fx
open Go.ChangeShapes Go.WideShapes Go.ChangeAt Go.RowKit
set_option linter.unusedVariables false

/-- a slice of small numbers that came in -/
def U8At (w : World) (ao : Option Addr) (n : Nat) (f : Nat → Int) : Prop := 0 < n → ∃ b off, ao = some ⟨b, off, none⟩ ∧ ∀ i, i < n → w.cell? ⟨b, off + i, none⟩ = some (.int .u8 (f i)) ∧ 0 ≤ f i ∧ f i < 256
theorem U8At.kept {w v : World} {ao : Option Addr} {n : Nat} {f : Nat → Int} (h : U8At w ao n f) (k : Made w.heap.size w v) : U8At v ao n f := fun hn => by
  obtain ⟨b, off, e, h⟩ := h hn
  exact ⟨b, off, e, fun i hi => ⟨k.reads (h i hi).1, (h i hi).2⟩⟩
/-- what a call of Made has given, laid into a variable -/
theorem wv_new {w v : World} {P : PW} {ob oj oc : Option Addr} {cb cj cc : Nat} {gw : Nat} (hH : Has v gw 31 #[.int .i64 0, .int .i64 P.nb, .int .i64 P.nj, .int .i64 0, .int .i64 0, .slice ob P.B.length cb, .slice oj P.J.length cj, .slice oc P.C.length cc]) (hL : WLs Nil0 w ob cb P.B oj cj P.J oc cc P.C) (k : Made w.heap.size w v) (hg : w.heap.size ≤ gw) : WV (fun b => b = gw) v gw P :=
  ⟨ob, oj, oc, cb, cj, cc, hH, (hL.free (Y := fun b => b = gw) (fun b hb => .inr (by have hb : b = gw := hb; omega))).kept k⟩
set_option maxRecDepth 100000 in
set_option maxHeartbeats 16000000 in
theorem wnumbers_walk (l : List De) (ao : Option Addr) (nl c : Nat) (ag : Option Addr) (n cg : Nat) (f : Nat → Int) (w : World) (hn : l.length = nl) (hD : DesAt w ao l) (hnc : nl ≤ c) (hcm : c ≤ maxLen) (ho : (ao = none ∧ nl = 0 ∧ c = 0) ∨ ∃ a, ao = some a) (hg : U8At w ag n f) (hncg : n ≤ cg) (hcmg : cg ≤ maxLen) :
    Calls Try.prog 6 #[.slice ao nl c, .slice ag n cg] w fun e v => e = .returned (.bool true) ∧ Made w.heap.size w v := by
  have HMd := hid (fun v (k : Made w.heap.size w v) => made_c 10 (by omega) hn (hD.kept k) hnc hcm ho)
  have HG := hid (fun v (k : Made w.heap.size w v) => hg.kept k)
  unfold maxLen at hcmg
  clear hn hD hnc hcm ho hg
  by_cases h20 : 20 < n
  · go_enter Try.func6, Try.ntmps6
    go_wp2_with fail
    refine (wfit_c _).mono ?_
    rintro e w1 ⟨rfl, k1⟩
    have K1 := hid k1
    clear k1
    go_wp2_with fail
    go_ret
    exact ⟨rfl, K1.out⟩
  · go_enter Try.func6, Try.ntmps6
    go_wp2_with fail
    refine (wfit_c _).mono ?_
    rintro e w1 ⟨rfl, k1⟩
    have K1 := hid k1
    clear k1
    go_wp2_with fail
    refine (HMd.out _ K1.out).mono ?_
    rintro e w2 ⟨P, val, rfl, hval, hok, hsm, k2⟩
    have K2 := hid (K1.out.then_ (k2.low K1.out.1.size))
    have OKm := hid hok
    have SMm : Hid (P.C = [] ∧ P.B.length ≤ 10 ∧ P.nb ≤ 11) := ⟨hsm.1, hsm.2.1, by have := hsm.2.2.2.1; omega⟩
    clear k2 hok hsm
    obtain ⟨obm, ojm, ocm, cbm, cjm, ccm, eval, hLm⟩ := hval
    have HLm := hid hLm
    obtain ⟨mB, emB⟩ : ∃ m, P.B.length = m := ⟨_, rfl⟩
    obtain ⟨mJ, emJ⟩ : ∃ m, P.J.length = m := ⟨_, rfl⟩
    obtain ⟨mC, emC⟩ : ∃ m, P.C.length = m := ⟨_, rfl⟩
    obtain ⟨mb, emb⟩ : ∃ m, P.nb = m := ⟨_, rfl⟩
    obtain ⟨mj, emj⟩ : ∃ m, P.nj = m := ⟨_, rfl⟩
    rw [emB, emJ, emC, emb, emj] at eval
    subst eval
    have HEm := hid (And.intro emB (And.intro emJ (And.intro emC (And.intro emb emj))))
    clear hLm emB emJ emC emb emj
    obtain ⟨W3, eW3⟩ : ∃ V, V = w2.alloc (.cells #[.int .i64 0, .int .i64 mb, .int .i64 mj, .int .i64 0, .int .i64 0, .slice obm mB cbm, .slice ojm mJ cjm, .slice ocm mC ccm] 31) := ⟨_, rfl⟩
    have K3 : Hid (Made w.heap.size w W3) := by unfold Hid; rw [eW3]; exact K2.out.cells K2.out.1.size _ _
    have hgw : w.heap.size ≤ w2.heap.size := K2.out.1.size
    have HVn : Hid (WV (fun b => b = w2.heap.size) W3 w2.heap.size P) := by
      unfold Hid
      obtain ⟨a1, a2, a3, a4, a5⟩ := HEm.out
      rw [eW3]
      refine wv_new (w := w2) ?_ HLm.out ((Made.rfl_ _ _).cells (Nat.le_refl _) _ _) (Nat.le_refl _)
      rw [a1, a2, a3, a4, a5]
      exact has_new _ _ _
    obtain ⟨gw, egw⟩ : ∃ g, w2.heap.size = g := ⟨_, rfl⟩
    rw [egw] at HVn hgw
    have HC0 : Hid (P.nb = mb) := HEm.out.2.2.2.1
    go_upto_region 6 with fail
    rw [← eW3]
    clear eW3
    try rw [egw]
    obtain ⟨ob0, oj0, oc0, cb0, cj0, cc0, hH0, hL0⟩ := HVn.out
    have HL0 := hid hL0
    have HH0 := hid hH0
    obtain ⟨nB0, eB0⟩ : ∃ m, (P).B.length = m := ⟨_, rfl⟩
    obtain ⟨nJ0, eJ0⟩ : ∃ m, (P).J.length = m := ⟨_, rfl⟩
    obtain ⟨nC0, eC0⟩ : ∃ m, (P).C.length = m := ⟨_, rfl⟩
    obtain ⟨nb0, eb0⟩ : ∃ m, (P).nb = m := ⟨_, rfl⟩
    obtain ⟨nj0, ej0⟩ : ∃ m, (P).nj = m := ⟨_, rfl⟩
    rw [eB0, eJ0, eC0, eb0, ej0] at HH0
    have HE0 := hid (And.intro eB0 (And.intro eJ0 (And.intro eC0 (And.intro eb0 ej0))))
    clear hH0 hL0 eB0 eJ0 eC0 eb0 ej0
    have b0 := HH0.out.at_ 0
    have b1 := HH0.out.at_ 1
    have b2 := HH0.out.at_ 2
    have b3 := HH0.out.at_ 3
    have b4 := HH0.out.at_ 4
    have b5 := HH0.out.at_ 5
    have b6 := HH0.out.at_ 6
    have b7 := HH0.out.at_ 7
    simp at b0 b1 b2 b3 b4 b5 b6 b7
    have lt0 : gw < W3.heap.size := HH0.out.here
    have hnb0 : nb0 = mb := HE0.out.2.2.2.1.symm.trans HC0.out
    subst hnb0
    go_wp2_with fail
    go_loopg [6, 8, 9, 10, 11, 12, 13, 14, 26] n (fun gg s6 s8 s9 s10 s11 s12 s13 s14 s26 wx => ∃ (k : Nat) (P : PW) (nx : Int), k + gg = n ∧ s26 = .int .i64 (k : Nat) ∧ s6 = .int .i64 nx ∧ Hid (Made w.heap.size w wx ∧ WV (fun b => b = gw) wx gw P ∧ POk P ∧ (P.C = [] ∧ P.B.length ≤ 10 + k ∧ P.nb ≤ 11 + ((k : Nat) : Int) ∧ P.nb = nx)))
    case atStart => exact ⟨0, P, nb0, by omega, rfl, rfl, K3.out, HVn.out, OKm.out, SMm.out.1, by have := SMm.out.2.1; omega, by have := SMm.out.2.2; omega, HC0.out⟩
    case round =>
      obtain ⟨k, Q, nx, hk, rfl, rfl, HB⟩ := hrel
      have KB := hid HB.out.1
      have HVB := hid HB.out.2.1
      have OKB := hid HB.out.2.2.1
      have SMB := hid HB.out.2.2.2
      clear HB b0 b1 b2 b3 b4 b5 b6 b7 lt0 HE0 HL0 HH0 HVn SMm OKm HC0 K3
      by_cases hlt : k < n
      · obtain ⟨bg, og, rfl, hgc⟩ := (HG.out _ KB.out) (by omega)
        obtain ⟨g0, gl, gh⟩ := hgc k hlt
        obtain ⟨x, ex⟩ : ∃ z, f k = z := ⟨_, rfl⟩
        rw [ex] at g0 gl gh
        clear hgc ex
        have hbg : bg < wr.heap.size := World.block_lt_of_cell? _ _ g0
        obtain ⟨ob1, oj1, oc1, cb1, cj1, cc1, hH1, hL1⟩ := HVB.out
        have HL1 := hid hL1
        have HH1 := hid hH1
        obtain ⟨nB1, eB1⟩ : ∃ m, (Q).B.length = m := ⟨_, rfl⟩
        obtain ⟨nJ1, eJ1⟩ : ∃ m, (Q).J.length = m := ⟨_, rfl⟩
        obtain ⟨nC1, eC1⟩ : ∃ m, (Q).C.length = m := ⟨_, rfl⟩
        obtain ⟨nb1, eb1⟩ : ∃ m, (Q).nb = m := ⟨_, rfl⟩
        obtain ⟨nj1, ej1⟩ : ∃ m, (Q).nj = m := ⟨_, rfl⟩
        rw [eB1, eJ1, eC1, eb1, ej1] at HH1
        have HE1 := hid (And.intro eB1 (And.intro eJ1 (And.intro eC1 (And.intro eb1 ej1))))
        clear hH1 hL1 eB1 eJ1 eC1 eb1 ej1
        have b0 := HH1.out.at_ 0
        have b1 := HH1.out.at_ 1
        have b2 := HH1.out.at_ 2
        have b3 := HH1.out.at_ 3
        have b4 := HH1.out.at_ 4
        have b5 := HH1.out.at_ 5
        have b6 := HH1.out.at_ 6
        have b7 := HH1.out.at_ 7
        simp at b0 b1 b2 b3 b4 b5 b6 b7
        have lt1 : gw < wr.heap.size := HH1.out.here
        rcases Nat.eq_zero_or_pos nB1 with hz | hz
        · have hq0 : ((0 : Int) < (nB1 : Int)) ↔ False := by rw [hz]; simp
          have hz' : ¬ (0 : Int) < (nB1 : Int) := by omega
          clear hz hq0
          go_upto_region 18 with fail
          clear b0 b1 b2 b3 b4 b5 b6 b7 lt1 g0 hbg
          have HV5 := HVB
          have OK5 := OKB
          have SM5 := SMB
          have HAD := hid (addDisc (X := fun b => b = gw) (w := wr) (gw := gw) (P := Q) 0 (by omega) (by omega) HV5.out OK5.out rfl (fun b hb => by have hb : b = gw := hb; rw [hb]; exact WVar.here HV5.out) (by have := SM5.out.2.1; omega) (by have := SM5.out.2.2.1; omega))
          rw [SM5.out.2.2.2] at HAD
          go_wp2_with fail
          refine HAD.out.mono ?_
          rintro e w9 ⟨rfl, kb9, bn, hbn, hv9, ok9⟩
          have K9 : Hid (Made w.heap.size w w9) := But.made_ KB.out kb9 KB.out.1.size (fun b hb => by have hb : b = gw := hb; omega)
          have HV9 := hid hv9
          have OK9 := hid ok9
          have HL9 : Hid ((Q).B.length ≤ 10 + k) := SM5.out.2.1
          clear kb9 hv9 ok9 hbn HAD
          have hnx0 : 1 ≤ nx := by have h1 := OK5.out.hB.num.1; have h2 := SM5.out.2.2.2; omega
          have hnx1 : nx ≤ 40 := by have h1 := SM5.out.2.2.1; have h2 := SM5.out.2.2.2; omega
          obtain ⟨nx1, enx⟩ : ∃ z, nx + 1 = z := ⟨_, rfl⟩
          obtain ⟨P9, eP9⟩ : ∃ ZZ : PW, (⟨nx + 1, (Q).nj, (Q).B ++ [bn], (Q).J, (Q).C⟩ : PW) = ZZ := ⟨_, rfl⟩
          have SM9 : Hid (P9.C = [] ∧ P9.B.length ≤ 10 + (k + 1) ∧ P9.nb ≤ 11 + ((k + 1 : Nat) : Int) ∧ P9.nb = nx1) := by
            rw [← eP9]
            have h1 := SM5.out
            rw [h1.2.2.2] at h1
            exact ⟨h1.1, by simp only [List.length_append, List.length_singleton]; have := h1.2.1; omega, by simp only []; have := h1.2.2.1; omega, enx⟩
          rw [eP9] at HV9 OK9
          clear eP9
          obtain ⟨ob9, oj9, oc9, cb9, cj9, cc9, hH9, hL9⟩ := HV9.out
          have HL9 := hid hL9
          have HH9 := hid hH9
          obtain ⟨nB9, eB9⟩ : ∃ m, (P9).B.length = m := ⟨_, rfl⟩
          obtain ⟨nJ9, eJ9⟩ : ∃ m, (P9).J.length = m := ⟨_, rfl⟩
          obtain ⟨nC9, eC9⟩ : ∃ m, (P9).C.length = m := ⟨_, rfl⟩
          obtain ⟨nb9, eb9⟩ : ∃ m, (P9).nb = m := ⟨_, rfl⟩
          obtain ⟨nj9, ej9⟩ : ∃ m, (P9).nj = m := ⟨_, rfl⟩
          rw [eB9, eJ9, eC9, eb9, ej9] at HH9
          have HE9 := hid (And.intro eB9 (And.intro eJ9 (And.intro eC9 (And.intro eb9 ej9))))
          clear hH9 hL9 eB9 eJ9 eC9 eb9 ej9
          have b0 := HH9.out.at_ 0
          have b1 := HH9.out.at_ 1
          have b2 := HH9.out.at_ 2
          have b3 := HH9.out.at_ 3
          have b4 := HH9.out.at_ 4
          have b5 := HH9.out.at_ 5
          have b6 := HH9.out.at_ 6
          have b7 := HH9.out.at_ 7
          simp at b0 b1 b2 b3 b4 b5 b6 b7
          have lt9 : gw < w9.heap.size := HH9.out.here
          have hnb9 : nb9 = nx1 := HE9.out.2.2.2.1.symm.trans SM9.out.2.2.2
          subst hnb9
          go_wp2_with fail
          go_roundg (n - (k + 1))
          case measure => omega
          case rel => exact ⟨k + 1, P9, nb9, by omega, by go_num, rfl, K9.out, HV9.out, OK9.out, SM9.out⟩
        · have hz' : (0 : Int) < (nB1 : Int) := by omega
          obtain ⟨j, ej⟩ : ∃ j : Nat, x.tmod nB1 = (j : Int) := ⟨(x % nB1).toNat, by rw [Int.tmod_eq_emod_of_nonneg gl]; have := Int.emod_nonneg x (show (nB1 : Int) ≠ 0 by omega); omega⟩
          have hj : j < nB1 := by rw [Int.tmod_eq_emod_of_nonneg gl] at ej; have := Int.emod_lt_of_pos x (show (0 : Int) < nB1 by omega); omega
          obtain ⟨y, ey⟩ : ∃ a, Q.B[j]? = some a := ⟨_, List.getElem?_eq_getElem (by rw [HE1.out.1]; exact hj)⟩
          obtain ⟨bb, off, eob, hbl, hLB⟩ := HL1.out.at_.lB (by rw [HE1.out.1]; omega)
          subst eob
          have hid0 := (hLB j _ ey).b11.1
          obtain ⟨id, eid⟩ : ∃ z, y.id = z := ⟨_, rfl⟩
          rw [eid] at hid0
          have HMem : Hid (id ∈ ids Q.B) := List.mem_map.2 ⟨y, List.mem_of_getElem? ey, eid⟩
          have hnB : nB1 ≤ 1073741824 := by have := OKB.out.hB.len; have := HE1.out.1; omega
          have hne0 : ((nB1 : Int) == 0) = false := by simp; omega
          clear ey eid hLB
          go_wp2_with fail
          refine reg_made (by kernel_rfl) (by kernel_rfl) ?_
          intro Ty hT fw hf
          have z5 := Class.reads hf b5
          have y0 := Class.reads hf hid0
          repeat (go_big_quiet_step (fail))
          refine wpQuiet_nil ?_
          intro w3 h3
          have k3 := hf.here h3
          have K4 := hid (KB.out.then_ (k3.low KB.out.1.size))
          have HV4 := hid (WVar.kept HVB.out k3)
          clear k3 h3 hf z5 y0 b0 b1 b2 b3 b4 b5 b6 b7 lt1 HE1 HL1 HH1 hid0 hbl HVB g0 hbg ej
          have hX : ∀ v, WV (fun b => b = gw) v gw Q → ∀ b, b = gw → b < v.heap.size := fun v h b hb => by rw [hb]; exact WVar.here h
          have HR1 := hid (remB_w id HV4.out OKB.out rfl (hX _ HV4.out) (by rw [SMB.out.1]; simp))
          go_wp2_with fail
          refine HR1.out.mono ?_
          rintro e w4 ⟨gone, P1, rfl, hR, hv4, kb4⟩
          have hgone : gone = true ∧ P1 = remB Q id := by
            rcases hR with ⟨a, _⟩ | ⟨_, a, b⟩
            · exact absurd HMem.out a
            · exact ⟨a, b⟩
          obtain ⟨rfl, rfl⟩ := hgone
          have K5 : Hid (Made w.heap.size w w4) := But.made_ K4.out kb4 K4.out.1.size (fun b hb => by have hb : b = gw := hb; omega)
          have HV5 := hid hv4
          have OK5 := hid (remB_ok (id := id) OKB.out)
          clear hR hv4 kb4 HR1 HV4
          have HR2 := hid (remB_w id HV5.out OK5.out rfl (fun b hb => by have hb : b = gw := hb; rw [hb]; exact WVar.here HV5.out) (by show (Q.C.filter _).length ≤ _; rw [SMB.out.1]; simp))
          have HNo : Hid (id ∉ ids (remB Q id).B) := by
            show id ∉ ids (Q.B.filter fun x => !goneB id x)
            rw [ids_filter, List.mem_filter]
            simp
          go_wp2_with fail
          refine HR2.out.mono ?_
          rintro e w5 ⟨gone, P2, rfl, hR, hv5, kb5⟩
          have hgone : gone = false ∧ P2 = remB Q id := by
            rcases hR with ⟨_, a, b⟩ | ⟨a, _⟩
            · exact ⟨a, b⟩
            · exact absurd a HNo.out
          obtain ⟨rfl, rfl⟩ := hgone
          have K6 : Hid (Made w.heap.size w w5) := But.made_ K5.out kb5 K5.out.1.size (fun b hb => by have hb : b = gw := hb; omega)
          have HV6 := hid hv5
          clear hR hv5 kb5 HR2 HV5
          obtain ⟨P6, eP6⟩ : ∃ Z, remB Q id = Z := ⟨_, rfl⟩
          have SM6 : Hid (P6.C = [] ∧ P6.B.length ≤ 10 + k ∧ P6.nb ≤ 11 + ((k : Nat) : Int) ∧ P6.nb = nx) := by
            rw [← eP6]
            have h1 := SMB.out
            exact ⟨by show Q.C.filter _ = []; rw [h1.1]; rfl, Nat.le_trans (List.length_filter_le _ _) h1.2.1, h1.2.2.1, h1.2.2.2⟩
          rw [eP6] at HV6 OK5 HNo
          have OK6 := hid OK5.out
          clear eP6 OK5 SMB OKB HMem
          obtain ⟨ob6, oj6, oc6, cb6, cj6, cc6, hH6, hL6⟩ := HV6.out
          have HL6 := hid hL6
          have HH6 := hid hH6
          obtain ⟨nB6, eB6⟩ : ∃ m, (P6).B.length = m := ⟨_, rfl⟩
          obtain ⟨nJ6, eJ6⟩ : ∃ m, (P6).J.length = m := ⟨_, rfl⟩
          obtain ⟨nC6, eC6⟩ : ∃ m, (P6).C.length = m := ⟨_, rfl⟩
          obtain ⟨nb6, eb6⟩ : ∃ m, (P6).nb = m := ⟨_, rfl⟩
          obtain ⟨nj6, ej6⟩ : ∃ m, (P6).nj = m := ⟨_, rfl⟩
          rw [eB6, eJ6, eC6, eb6, ej6] at HH6
          have HE6 := hid (And.intro eB6 (And.intro eJ6 (And.intro eC6 (And.intro eb6 ej6))))
          clear hH6 hL6 eB6 eJ6 eC6 eb6 ej6
          have b0 := HH6.out.at_ 0
          have b1 := HH6.out.at_ 1
          have b2 := HH6.out.at_ 2
          have b3 := HH6.out.at_ 3
          have b4 := HH6.out.at_ 4
          have b5 := HH6.out.at_ 5
          have b6 := HH6.out.at_ 6
          have b7 := HH6.out.at_ 7
          simp at b0 b1 b2 b3 b4 b5 b6 b7
          have lt6 : gw < w5.heap.size := HH6.out.here
          have HBd := hid (wbody_c 0 nb6 nj6 0 0 oj6 oc6 nJ6 cj6 nC6 cc6 (c := cb6) id HE6.out.1 (by have := OK6.out.hB.len; have := HE6.out.1; omega) HL6.out.at_.lB OK6.out.hB.num.2.2.1)
          go_wp2_with fail
          refine HBd.out.mono ?_
          rintro e w6 ⟨i, r, rfl, k6, h1, h2⟩
          have hr : r = false := by
            cases r with
            | false => rfl
            | true =>
              obtain ⟨z, hz, ez⟩ := h1 rfl
              exact absurd (List.mem_map.2 ⟨z, List.mem_of_getElem? hz, ez⟩) HNo.out
          subst hr
          have K7 := hid (K6.out.then_ (k6.low K6.out.1.size))
          have HV7 := hid (WVar.kept HV6.out k6)
          have OK7 := hid OK6.out
          have SM7 := hid SM6.out
          clear h1 h2 k6 b0 b1 b2 b3 b4 b5 b6 b7 lt6 HE6 HL6 HH6 HV6 HBd
          go_upto_region 18 with fail
          have HAD := hid (addDisc (X := fun b => b = gw) (w := w6) (gw := gw) (P := P6) 0 (by omega) (by omega) HV7.out OK7.out rfl (fun b hb => by have hb : b = gw := hb; rw [hb]; exact WVar.here HV7.out) (by have := SM7.out.2.1; omega) (by have := SM7.out.2.2.1; omega))
          rw [SM7.out.2.2.2] at HAD
          go_wp2_with fail
          refine HAD.out.mono ?_
          rintro e w9 ⟨rfl, kb9, bn, hbn, hv9, ok9⟩
          have K9 : Hid (Made w.heap.size w w9) := But.made_ K7.out kb9 K7.out.1.size (fun b hb => by have hb : b = gw := hb; omega)
          have HV9 := hid hv9
          have OK9 := hid ok9
          have HL9 : Hid ((P6).B.length ≤ 10 + k) := SM7.out.2.1
          clear kb9 hv9 ok9 hbn HAD
          have hnx0 : 1 ≤ nx := by have h1 := OK7.out.hB.num.1; have h2 := SM7.out.2.2.2; omega
          have hnx1 : nx ≤ 40 := by have h1 := SM7.out.2.2.1; have h2 := SM7.out.2.2.2; omega
          obtain ⟨nx1, enx⟩ : ∃ z, nx + 1 = z := ⟨_, rfl⟩
          obtain ⟨P9, eP9⟩ : ∃ ZZ : PW, (⟨nx + 1, (P6).nj, (P6).B ++ [bn], (P6).J, (P6).C⟩ : PW) = ZZ := ⟨_, rfl⟩
          have SM9 : Hid (P9.C = [] ∧ P9.B.length ≤ 10 + (k + 1) ∧ P9.nb ≤ 11 + ((k + 1 : Nat) : Int) ∧ P9.nb = nx1) := by
            rw [← eP9]
            have h1 := SM7.out
            rw [h1.2.2.2] at h1
            exact ⟨h1.1, by simp only [List.length_append, List.length_singleton]; have := h1.2.1; omega, by simp only []; have := h1.2.2.1; omega, enx⟩
          rw [eP9] at HV9 OK9
          clear eP9
          obtain ⟨ob9, oj9, oc9, cb9, cj9, cc9, hH9, hL9⟩ := HV9.out
          have HL9 := hid hL9
          have HH9 := hid hH9
          obtain ⟨nB9, eB9⟩ : ∃ m, (P9).B.length = m := ⟨_, rfl⟩
          obtain ⟨nJ9, eJ9⟩ : ∃ m, (P9).J.length = m := ⟨_, rfl⟩
          obtain ⟨nC9, eC9⟩ : ∃ m, (P9).C.length = m := ⟨_, rfl⟩
          obtain ⟨nb9, eb9⟩ : ∃ m, (P9).nb = m := ⟨_, rfl⟩
          obtain ⟨nj9, ej9⟩ : ∃ m, (P9).nj = m := ⟨_, rfl⟩
          rw [eB9, eJ9, eC9, eb9, ej9] at HH9
          have HE9 := hid (And.intro eB9 (And.intro eJ9 (And.intro eC9 (And.intro eb9 ej9))))
          clear hH9 hL9 eB9 eJ9 eC9 eb9 ej9
          have b0 := HH9.out.at_ 0
          have b1 := HH9.out.at_ 1
          have b2 := HH9.out.at_ 2
          have b3 := HH9.out.at_ 3
          have b4 := HH9.out.at_ 4
          have b5 := HH9.out.at_ 5
          have b6 := HH9.out.at_ 6
          have b7 := HH9.out.at_ 7
          simp at b0 b1 b2 b3 b4 b5 b6 b7
          have lt9 : gw < w9.heap.size := HH9.out.here
          have hnb9 : nb9 = nx1 := HE9.out.2.2.2.1.symm.trans SM9.out.2.2.2
          subst hnb9
          go_wp2_with fail
          go_roundg (n - (k + 1))
          case measure => omega
          case rel => exact ⟨k + 1, P9, nb9, by omega, by go_num, rfl, K9.out, HV9.out, OK9.out, SM9.out⟩
      · have e : k = n := by omega
        subst e
        obtain ⟨ob8, oj8, oc8, cb8, cj8, cc8, hH8, hL8⟩ := HVB.out
        have HL8 := hid hL8
        have HH8 := hid hH8
        obtain ⟨nB8, eB8⟩ : ∃ m, (Q).B.length = m := ⟨_, rfl⟩
        obtain ⟨nJ8, eJ8⟩ : ∃ m, (Q).J.length = m := ⟨_, rfl⟩
        obtain ⟨nC8, eC8⟩ : ∃ m, (Q).C.length = m := ⟨_, rfl⟩
        obtain ⟨nb8, eb8⟩ : ∃ m, (Q).nb = m := ⟨_, rfl⟩
        obtain ⟨nj8, ej8⟩ : ∃ m, (Q).nj = m := ⟨_, rfl⟩
        rw [eB8, eJ8, eC8, eb8, ej8] at HH8
        have HE8 := hid (And.intro eB8 (And.intro eJ8 (And.intro eC8 (And.intro eb8 ej8))))
        clear hH8 hL8 eB8 eJ8 eC8 eb8 ej8
        have b0 := HH8.out.at_ 0
        have b1 := HH8.out.at_ 1
        have b2 := HH8.out.at_ 2
        have b3 := HH8.out.at_ 3
        have b4 := HH8.out.at_ 4
        have b5 := HH8.out.at_ 5
        have b6 := HH8.out.at_ 6
        have b7 := HH8.out.at_ 7
        simp at b0 b1 b2 b3 b4 b5 b6 b7
        have lt8 : gw < wr.heap.size := HH8.out.here
        have HRt := hid (right_yes HL8.out OKB.out HE8.out (by rw [SMB.out.1]; simp))
        go_wp2_with fail
        refine HRt.out.mono ?_
        rintro e w9 ⟨rfl, k9⟩
        have K9 := hid (KB.out.then_ (k9.low KB.out.1.size))
        clear k9 b0 b1 b2 b3 b4 b5 b6 b7 lt8
        go_wp2_with fail
        go_ret
        exact ⟨rfl, K9.out⟩
end Go.Proofs.Ythhoaapmfknmlaa.Fx
