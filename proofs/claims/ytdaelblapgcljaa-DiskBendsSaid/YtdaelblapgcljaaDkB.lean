/- Package disk: how an operation begins; names; the file of a name. -/
import Derived.Test.YtdaelblapgcljaaDkA
namespace Go.Proofs.Ytdaelblapgcljaa.Fx
open Go.ChangeShapes Go.WideShapes Go.ChangeAt Go.RowKit Go.Maps
set_option linter.unusedVariables false

theorem opD_yes {d : Dsk} {q : Bool} (h : q = (d.off || (decide (0 ≤ d.fell) && decide (d.fell ≤ d.ops)))) : (opD d).1 = { d with ops := d.ops + 1, off := q } := by
  unfold opD; rw [h]
theorem ArmP.op {d : Dsk} {ar dn fl : Int} (h : ArmP d ar dn fl) (h2 : d.ops ≤ 1073741824) : ArmP (opD d).1 ar dn fl := by
  have hl := h.lo; have hh := h.hi
  refine ⟨hl, ?_, h.dI, h.fI, fun n h1 h2 => h.dn n ?_ h2, fun n h1 h2 => h.fl n ?_ h2, ?_⟩
  · show ar ≤ d.ops + 1
    omega
  · have h1 : d.ops + 1 ≤ n := h1
    omega
  · have h1 : d.ops + 1 ≤ n := h1
    omega
  · show (d.off || (decide (0 ≤ d.fell) && decide (d.fell ≤ d.ops))) = true ∨ d.fell < 0 ∨ d.ops + 1 ≤ d.fell
    rcases h.was with h | h | h
    · exact .inl (by rw [h]; rfl)
    · exact .inr (.inl h)
    · by_cases e : d.fell = d.ops
      · by_cases h0 : 0 ≤ d.fell
        · refine .inl ?_
          have h1 : decide (0 ≤ d.fell) = true := decide_eq_true h0
          have h2 : decide (d.fell ≤ d.ops) = true := decide_eq_true (by omega)
          rw [h1, h2]; simp
        · exact .inr (.inl (by omega))
      · exact .inr (.inr (by omega))
/-- does it go down here? -/
theorem ArmP.down {d : Dsk} {ar dn fl : Int} (h : ArmP d ar dn fl) (h0 : 0 ≤ d.ops) (h2 : d.ops ≤ 1073741824) : (d.off || decide (d.ops - ar = dn)) = (d.off || (decide (0 ≤ d.fell) && decide (d.fell ≤ d.ops))) := by
  have h3 := h.dn d.ops (by omega) (by omega)
  cases e : d.off with
  | true => rfl
  | false =>
    rcases h.was with h | h | h
    · rw [e] at h; cases h
    · have h1 : decide (0 ≤ d.fell) = false := decide_eq_false (by omega)
      rw [h1]
      have : decide (d.ops - ar = dn) = false := decide_eq_false (fun hh => by have := h3.1 hh; omega)
      rw [this]; rfl
    · by_cases hh : d.ops = d.fell
      · have h1 : decide (0 ≤ d.fell) = true := decide_eq_true (by omega)
        have h2 : decide (d.fell ≤ d.ops) = true := decide_eq_true (by omega)
        have : decide (d.ops - ar = dn) = true := decide_eq_true (h3.2 hh)
        rw [h1, h2, this]; rfl
      · have h2 : decide (d.fell ≤ d.ops) = false := decide_eq_false (by omega)
        have : decide (d.ops - ar = dn) = false := decide_eq_false (fun x => hh (h3.1 x))
        rw [h2, this]; simp
theorem wrap64_of {x : Int} (h1 : -9223372036854775808 ≤ x) (h2 : x ≤ 9223372036854775807) : IntKind.i64.wrap x = x := by
  simp [IntKind.wrap, IntKind.bits, IntKind.signed]
  omega
set_option maxRecDepth 100000 in
set_option maxHeartbeats 2000000 in
theorem dbegin_c {w : World} {k : Dk} {d : Dsk} (h : DAt w k d) (hs : SmD d) : Calls Try.prog 40 #[.pointer (some ⟨k.p, 0, none⟩)] w fun e w' => e = .returned (.int .i64 (opD d).2) ∧ DRes w w' k d k (opD d).1 := by
  have H := hid (dnone_c h)
  have HA := hid h
  have HD := hid (h.arm.down hs.ops.1 hs.ops.2)
  have HF := hid (h.arm.fl d.ops (by omega) (by have := hs.ops; omega))
  have hl := h.arm.lo; have hh := h.arm.hi; have h0 := hs.ops.1; have h1 := hs.ops.2
  have hI1 := h.arm.dI; have hI2 := h.arm.fI
  have f6 := h.top.free 6; have f7 := h.top.free 7
  obtain ⟨-, -, -, -, -, -, c6, c7, c8, c9, c10⟩ := h.cells
  obtain ⟨p, ep⟩ : ∃ p, k.p = p := ⟨_, rfl⟩
  obtain ⟨O, eO⟩ : ∃ O, d.ops = O := ⟨_, rfl⟩
  obtain ⟨A, eA⟩ : ∃ A, k.ar = A := ⟨_, rfl⟩
  obtain ⟨D, eD⟩ : ∃ D, k.dn = D := ⟨_, rfl⟩
  obtain ⟨F, eF⟩ : ∃ F, k.fl = F := ⟨_, rfl⟩
  obtain ⟨q, eq⟩ : ∃ q, d.off = q := ⟨_, rfl⟩
  obtain ⟨n, en⟩ : ∃ n, O - A = n := ⟨_, rfl⟩
  rw [ep, eO] at c7
  rw [ep, eA] at c8
  rw [ep, eD] at c9
  rw [ep, eF] at c10
  rw [ep, eq] at c6
  rw [ep] at f6 f7 H ⊢
  rw [eO] at hh h0 h1
  rw [eA] at hl hh
  rw [eD] at hI1
  rw [eF] at hI2
  -- what it leaves, whatever it answers
  have HE : Hid (∀ (Q : Bool) (v : World), Q = (q || decide (n = D)) → v = (((w.drew).setCell ⟨p, 7, none⟩ (.int .i64 (O + 1))).setCell ⟨p, 6, none⟩ (.bool Q)) ∨ v = ((((w.drew).setCell ⟨p, 7, none⟩ (.int .i64 (O + 1))).setCell ⟨p, 6, none⟩ (.bool Q)).drew) → DRes w v k d k (opD d).1) := by
    intro Q v hQ hv
    have hop : (opD d).1 = { d with ops := O + 1, off := Q } := by
      have : Q = (d.off || (decide (0 ≤ d.fell) && decide (d.fell ≤ d.ops))) := by rw [← HD.out, hQ, eq, eO, eA, eD, en]
      rw [opD_yes this, eO]
    have hH : Has v p 62 (topA k { d with ops := O + 1, off := Q }) := by
      have h1 : Has w p 62 (topA k d) := ep ▸ h.top
      have h2 := ((h1.drawn 1).put 7 (.int .i64 (O + 1))).put 6 (.bool Q)
      have e : ((topA k d).setIfInBounds 7 (.int .i64 (O + 1))).setIfInBounds 6 (.bool Q) = topA k { d with ops := O + 1, off := Q } := rfl
      rw [e] at h2
      rcases hv with rfl | rfl
      · exact h2
      · exact h2
    have hT : Tn (fun b => b = k.p) w v := by
      have t1 := ((tn_drew w (fun b => b = k.p)).then0 ((tn_put w.drew ⟨p, 7, none⟩ (.int .i64 (O + 1))).up fun b hb => .inl (hb.trans ep.symm))).then0 ((tn_put _ ⟨p, 6, none⟩ (.bool Q)).up fun b hb => .inl (hb.trans ep.symm))
      rcases hv with rfl | rfl
      · exact t1
      · exact t1.then0 (tn_drew _ _)
    have ha : ArmP (opD d).1 k.ar k.dn k.fl := h.arm.op hs.ops.2
    rw [hop] at ha ⊢
    exact h.top_ rfl (by rw [ep]; exact hH) hT ha rfl rfl rfl rfl rfl rfl rfl rfl rfl rfl rfl
  have HO : Hid ((opD d).2 = if (q || decide (n = D)) = true then 8 else if n = F then 7 else 0) := by
    unfold Hid opD
    simp only
    rw [← HD.out, eq, eO, eA, eD, en]
    congr 1
    have h3 := HF.out
    rw [eO, eA, eF, en] at h3
    by_cases hx : n = F
    · rw [if_pos hx, if_pos]
      exact ⟨by have := h3.1 hx; omega, h3.1 hx⟩
    · rw [if_neg hx, if_neg]
      rintro ⟨_, h5⟩
      exact hx (h3.2 h5)
  clear h hs HA HD HF ep eO eA eD eF eq
  have wn : IntKind.i64.wrap (O - A) = n := by rw [en]; exact wrap64_of (by omega) (by omega)
  have hn0 : 0 ≤ n := by omega
  have hn1 : n ≤ 1073741824 := by omega
  have en := hid en
  go_enter Try.func40, Try.ntmps40
  go_wp2_with fail
  refine H.out.mono ?_
  rintro e w' ⟨rfl, rfl⟩
  go_wp2_with fail
  go_region
  cases q with
  | true =>
    have HO' : Hid ((opD d).2 = 8) := by unfold Hid; rw [HO.out]; rfl
    go_wp2_with fail
    go_ret
    refine ⟨cret_i HO'.out.symm, HE.out true _ rfl (.inl rfl)⟩
  | false =>
    by_cases hd : n = D
    · have x1 : (n == D) = true := by simpa using hd
      have HO' : Hid ((opD d).2 = 8) := by unfold Hid; rw [HO.out]; simp [hd]
      have HE' := hid (HE.out true)
      have HX : Hid ((false || decide (n = D)) = true) := by unfold Hid; simp [hd]
      have hd := hid hd
      go_wp2_with fail
      go_ret
      refine ⟨cret_i HO'.out.symm, HE'.out _ HX.out.symm (.inl rfl)⟩
    · have x1 : (n == D) = false := by simpa using hd
      have HX : Hid ((false || decide (n = D)) = false) := by unfold Hid; simp [hd]
      have HE' := hid (HE.out false)
      have hd := hid hd
      by_cases hf : n = F
      · have x2 : (n == F) = true := by simpa using hf
        have HO' : Hid ((opD d).2 = 7) := by unfold Hid; rw [HO.out, HX.out]; simp [hf]
        have hf := hid hf
        go_wp2_with fail
        go_ret
        refine ⟨cret_i HO'.out.symm, HE'.out _ HX.out.symm (.inl rfl)⟩
      · have x2 : (n == F) = false := by simpa using hf
        have HO' : Hid ((opD d).2 = 0) := by unfold Hid; rw [HO.out, HX.out]; simp [hf]
        have hf := hid hf
        go_wp2_with fail
        go_ret
        refine ⟨cret_i HO'.out.symm, HE'.out _ HX.out.symm (.inl rfl)⟩
end Go.Proofs.Ytdaelblapgcljaa.Fx
