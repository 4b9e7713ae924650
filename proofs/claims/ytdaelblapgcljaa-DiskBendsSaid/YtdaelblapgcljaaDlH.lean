/- Package disk: Bend. -/
import Derived.Test.YtdaelblapgcljaaDlE
namespace Go.Proofs.Ytdaelblapgcljaa.Fx
open Go.ChangeShapes Go.WideShapes Go.ChangeAt Go.RowKit Go.Maps Go.Sort
set_option linter.unusedVariables false

/-- bytes, bent -/
def bendL (at_ : Int) (mask : Nat) (l : List Nat) : List Nat := rowB (bendB (gb l) at_ mask 32) l.length
theorem bendL_len (at_ : Int) (mask : Nat) (l : List Nat) : (bendL at_ mask l).length = l.length := rowB_len _ _
theorem bendD_no {d : Dsk} {s : ByteArray} (g : List Nat → List Nat) (h : lookD d.names s = none) : bendD d s g = (d, false) := by unfold bendD; rw [h]
theorem bendD_yes {d : Dsk} {s : ByteArray} {n : Nam} (g : List Nat → List Nat) (h : lookD d.names s = some n) : bendD d s g = ({ d with files := putD d.files n.f fun f => { f with b := g f.b } }, true) := by unfold bendD; rw [h]
theorem DRes.same {w : World} {k : Dk} {d : Dsk} (h : DAt w k d) (m : Nat) : DRes w (w.drewN m) k d k d := DRes.below h (drewN_below w m)
set_option maxRecDepth 100000 in
set_option maxHeartbeats 4000000 in
theorem dbend_c {w : World} {k : Dk} {d : Dsk} (h : DAt w k d) (ho : DOl d) (hs : SmD d) {s : ByteArray} (hz : s.size ≤ maxLen) {at_ : Int} {mask : Nat} (hm : mask < 4294967296) (h1 : -2305843009213693952 ≤ at_) (h2 : at_ ≤ 2305843009213693952) :
    Calls Try.prog 24 #[.pointer (some ⟨k.p, 0, none⟩), .string s, .int .i64 at_, .int .u32 (mask : Nat)] w fun e w' => e = .returned (.bool (bendD d s (bendL at_ mask)).2) ∧ ∃ k', DRes w w' k d k' (bendD d s (bendL at_ mask)).1 := by
  have H0 := hid (dnone_c h)
  have HF := hid (fun (v : World) (hv : DAt v k d) => dfile_c hv ho hs hz)
  have HO := hid ho
  have HS := hid hs
  have HA := hid h
  have HM := hid (And.intro hm (And.intro h1 h2))
  obtain ⟨p, ep⟩ : ∃ p, k.p = p := ⟨_, rfl⟩
  rw [ep] at H0 HF ⊢
  cases hl : lookD d.names s with
  | none =>
    have HD := hid (bendD_no (bendL at_ mask) hl)
    rw [fptr_none hl] at HF
    clear h ho hs hl hm h1 h2 ep
    go_enter Try.func24, Try.ntmps24
    go_wp2_with fail
    refine H0.out.mono ?_
    rintro e w1 ⟨rfl, rfl⟩
    go_wp2_with fail
    refine (HF.out _ HA.out).mono ?_
    rintro e w1 ⟨rfl, m, rfl⟩
    go_wp2_with fail
    go_ret
    exact ⟨bret_i (by rw [HD.out]), k, by rw [HD.out]; exact DRes.same HA.out m⟩
  | some n =>
    have HD := hid (bendD_yes (bendL at_ mask) hl)
    rw [fptr_some hl] at HF
    obtain ⟨f, hf, hfd, hfi⟩ := ho.ok.file hl
    have HFI := hid (And.intro hf hfi)
    have HL := hid (Nat.le_trans (len_le hf) hs.len)
    obtain ⟨g, eg⟩ : ∃ g, k.bl n.f = g := ⟨_, rfl⟩
    rw [eg] at HF
    have EG := hid eg
    clear h ho hs hl hm h1 h2 ep hf hfd hfi eg
    go_enter Try.func24, Try.ntmps24
    go_wp2_with fail
    refine H0.out.mono ?_
    rintro e w1 ⟨rfl, rfl⟩
    go_wp2_with fail
    refine (HF.out _ HA.out).mono ?_
    rintro e w1 ⟨rfl, m, rfl⟩
    have HR := hid (DRes.same HA.out m)
    go_wp2_with fail
    refine (HF.out _ HR.out.at_).mono ?_
    rintro e w1 ⟨rfl, m2, rfl⟩
    have HR2 := hid (HR.out.then_ (DRes.same HR.out.at_ m2))
    obtain ⟨V, eV⟩ : ∃ V, (w.drewN m).drewN m2 = V := ⟨_, rfl⟩
    rw [eV] at HR2 ⊢
    obtain ⟨ao, cc, er, hH, hO, hc, hm, hn⟩ := HR2.out.at_.rest.file (f := f) HFI.out.1
    rw [HFI.out.2, EG.out] at hH
    obtain ⟨L, eL⟩ : ∃ L, f.b.length = L := ⟨_, rfl⟩
    have EL := hid eL
    have z0 : V.cell? ⟨g, 0, none⟩ = some (.slice ao L cc) := by rw [← eL]; exact hH.at_ 0
    have HH := hid hH; have HOB := hid hO; have ER := hid er
    clear hH hO er eL hc hm hn eV HR
    go_wp2_with fail
    refine (cbend_c (f := gb f.b) (gb_lt (HO.out.by8 f HFI.out.1)) (by have := HOB.out.by_; rw [EL.out] at this; exact this) (by have := HL.out; have := EL.out; omega) HM.out.1 HM.out.2.1 HM.out.2.2).mono ?_
    rintro e w2 ⟨v, rfl, hV, hMd⟩
    obtain ⟨ao2, c2, rfl, _⟩ := hV.shape
    have hH2 : Has w2 g 86 #[.slice ao f.b.length cc, .int .i64 (f.sure : Nat)] := HH.out.tn (Below.tn (X := NilB) hMd.1) (fun (e : NilB g) => e.elim)
    have y0 : w2.cell? ⟨g, 0, none⟩ = some (.slice ao f.b.length cc) := hH2.at_ 0
    have f0 := hH2.free 0
    have HH2 := hid hH2
    have HV := hid hV
    have HB := hid hMd.1
    clear hH2 hV hMd z0
    go_wp2_with fail
    go_ret
    obtain ⟨v, ev⟩ : ∃ v, Value.slice ao2 L c2 = v := ⟨_, rfl⟩
    rw [ev] at HV ⊢
    refine ⟨bret_i (by rw [HD.out]), k.row f.id v, ?_⟩
    rw [HD.out]
    have hW : Has (w2.setCell ⟨g, 0, none⟩ v) g 86 #[v, .int .i64 (f.sure : Nat)] := HH2.out.put 0 v
    have vne : v.ownBlock ≠ some g := fun e => by
      obtain ⟨cur, e⟩ := own_ty HV.out e
      exact absurd (ty_eq e HH2.out) (by decide)
    have t : Tn (fun b => b = g) V (w2.setCell ⟨g, 0, none⟩ v) := (Below.tn HB.out (X := fun b => b = g)).then_ (tn_put w2 ⟨g, 0, none⟩ v) fun b hb => .inl hb
    refine HR2.out.then_ (HR2.out.at_.putf HO.out.ok.ids HFI.out.1 (g := fun f => { f with b := bendL at_ mask f.b }) (fun _ => rfl) t (fun b hb => .inl (by rw [HFI.out.2, EG.out]; exact hb)) ?_ ?_ ?_ (by rw [HFI.out.2]))
    · rw [HFI.out.2, EG.out]; exact hW
    · have h3 : OB (w2.setCell ⟨g, 0, none⟩ v) V.heap.size v L (bendB (gb f.b) at_ mask 32) := HV.out.tn (tn_put w2 ⟨g, 0, none⟩ v) fun x hx e => vne (by rw [hx, e])
      rw [show (bendL at_ mask f.b).length = L by rw [bendL_len, EL.out]]
      refine (h3.congr fun i hi => ?_).low (Nat.zero_le _)
      unfold bendL
      rw [rowB_gb _ _ _ (by rw [EL.out]; exact hi)]
    · exact .inr fun x hx => by
        rcases HV.out.2 with ⟨e, _⟩ | ⟨g', cap, cur, e, hb, _⟩
        · rw [e] at hx; cases hx
        · rw [e] at hx; cases hx; exact hb
end Go.Proofs.Ytdaelblapgcljaa.Fx
