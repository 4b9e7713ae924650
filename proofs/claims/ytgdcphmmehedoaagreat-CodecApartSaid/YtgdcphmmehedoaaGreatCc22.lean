/- CoI CoG CoH CoF -/
import Derived.Test.YtgdcphmmehedoaaGreatCc21
set_option maxRecDepth 100000
set_option maxHeartbeats 64000000
/- Package pack once more: a reader by the state that it is in; what is read, plain. -/
namespace Go.Proofs.YtgdcphmmehedoaaGreat.Fx
open Go.ChangeShapes Go.WideShapes Go.ChangeAt Go.RowKit
set_option linter.unusedVariables false
theorem rnum2_c {pb m n c : Nat} {ao : Option Addr} {f : Nat → Nat} {w : World} (h : Re w pb ao n c f) (hf : ∀ i, f i < 256) (hm : m ≤ 8) (h0 : 0 < m) (hs : m ≤ n) :
  Calls Tryz.prog 60 #[.pointer (some ⟨pb, 0, none⟩), .int .i64 (m : Nat)] w fun e w' => e = .returned (.int .i64 (valI f m)) ∧ (∃ ao' c', (Re w' pb ao' (n - m) c' fun i => f (m + i)) ∧ ∀ b off, ao' = some ⟨b, off, none⟩ → ∃ off0, ao = some ⟨b, off0, none⟩) ∧ On1 pb w w' := by
 have hmax : max (m : Int) 0 = (m : Int) := by omega
 have hmin : min (m : Int) 8 = (m : Int) := by omega
 obtain ⟨b, off, rfl, hby⟩ := h.by_ (by omega)
 have c0 := h.c0
 have hle := h.le
 have hc := h.top
 unfold maxLen at hc
 have hlt : decide ((m : Int) > (n : Int)) = false := decide_eq_false (by omega)
 have hlt0 : decide (n < m) = false := decide_eq_false (by omega)
 have H := hid (rbad_c h)
 have HB := hid hby
 have HF := hid hf
 have HE := hid h
 have z0 := h.z0
 clear h hby hf
 go_enter Tryz.func60, Tryz.ntmps60
 go_wp2_with fail
 refine H.out.mono ?_
 rintro e w1 ⟨rfl, rfl⟩
 go_wp2_with fail
 go_loopg [5, 31] m (fun g x i wx => ∃ k : Nat, k + g = m ∧ i = .int .i64 (k : Nat) ∧ x = .int .i64 (valI f k) ∧ Hid (w = wx))
 case atStart => exact ⟨0, by omega, by first | rfl | trivial, rfl, rfl⟩
 case round =>
  obtain ⟨k, hk, rfl, rfl, HW⟩ := hrel
  have hW := HW.out
  subst hW
  obtain ⟨r, er⟩ : ∃ r, valI f k = r := ⟨_, rfl⟩
  rw [er]
  by_cases hkm : k < m
  ·have c2 := HB.out k (by omega)
   obtain ⟨x, ex⟩ : ∃ x, f k = x := ⟨_, rfl⟩
   have lx : x < 256 := by rw [← ex]; exact HF.out k
   rw [ex] at c2
   have HN : Hid (valI f (k + 1) = bits .or .i64 r (wrap64 ((x : Int) * 2 ^ (8 * k)))) := by
    unfold Hid
    show bits .or .i64 (valI f k) (wrap64 ((f k : Int) * 2 ^ (8 * k))) = _
    rw [er, ex]
   clear er ex
   go_wp2_with fail
   go_roundg (m - k - 1)
   case rel => exact ⟨k + 1, by omega, by go_num, by rw [HN.out], rfl⟩
   case measure => omega
  ·have e : k = m := by omega
   subst e
   have HR := hid er
   clear er
   go_wp2_with fail
   ·go_ret
    refine ⟨cret_i HR.out.symm, ⟨_, ⟨_, HE.out.less hs (by omega) (by unfold maxLen; omega) ?_⟩, fun b' off' e => ?_⟩, (On1.rfl_ pb w).put 0 _⟩
    ·first | exact .inl rfl | exact .inr (by omega)
    ·cases e; first | rfl | exact ⟨_, rfl⟩
   ·go_ret
    refine ⟨cret_i HR.out.symm, ⟨_, ⟨_, HE.out.less hs (by omega) (by unfold maxLen; omega) ?_⟩, fun b' off' e => ?_⟩, (On1.rfl_ pb w).put 0 _⟩
    ·first | exact .inl rfl | exact .inr (by omega)
    ·cases e; first | rfl | exact ⟨_, rfl⟩
def Rd (w : World) (pb B : Nat) (s : Rs) : Prop :=
 pb < B ∧ match s with
 | none => Rx w pb
 | some l => ∃ ao c, Re w pb ao l.length c (gl l) ∧ (0 < l.length → ∀ b off, ao = some ⟨b, off, none⟩ → b < B)
theorem Re.congr {w : World} {pb n c : Nat} {ao : Option Addr} {f g : Nat → Nat} (h : Re w pb ao n c f) (e : ∀ i, i < n → f i = g i) : Re w pb ao n c g :=
 ⟨h.c0, h.c1, h.z0, h.z1, h.by_.congr e, h.le, h.top, h.off⟩
theorem Rd.but {X : Nat → Prop} {w u : World} {pb B : Nat} {s : Rs} (h : Rd w pb B s) (k : But X w u) (hx : ∀ b, X b → B ≤ b) : Rd u pb B s := by
 have hp : ¬ X pb := fun e => by have := hx pb e; have := h.1; omega
 refine ⟨h.1, ?_⟩
 cases s with
 | none =>
  have h2 : Rx w pb := h.2
  show Rx u pb
  exact ⟨k.cell h2.c0 hp, k.cell h2.c1 hp, (k.marks _).trans h2.z0, (k.marks _).trans h2.z1⟩
 | some l =>
  obtain ⟨ao, c, h2, h3⟩ : ∃ ao c, Re w pb ao l.length c (gl l) ∧ (0 < l.length → ∀ b off, ao = some ⟨b, off, none⟩ → b < B) := h.2
  refine ⟨ao, c, ⟨k.cell h2.c0 hp, k.cell h2.c1 hp, (k.marks _).trans h2.z0, (k.marks _).trans h2.z1, fun hn => ?_, h2.le, h2.top, h2.off⟩, h3⟩
  obtain ⟨b, off, e, hc⟩ := h2.by_ hn
  exact ⟨b, off, e, fun i hi => k.cell (hc i hi) fun hb => by have := hx b hb; have := h3 hn b off e; omega⟩
theorem Rd.kept {w u : World} {pb B : Nat} {s : Rs} (h : Rd w pb B s) (k : Made w.heap.size w u) : Rd u pb B s := h.but (Made.but (X := Nil0) k) (fun _ e => e.elim)
theorem On1.but {X : Nat} {w v : World} (h : On1 X w v) : But (fun b => b = X) w v := ⟨h.os, h.tape, h.output, h.size, h.block, h.marks⟩
theorem rN_c {pb B m : Nat} {s : Rs} {w : World} (h : Rd w pb B s) (hs : RsOk s) (hm : m ≤ 8) (h0 : 0 < m) :
  Calls Tryz.prog 60 #[.pointer (some ⟨pb, 0, none⟩), .int .i64 (m : Nat)] w fun e w' => e = .returned (.int .i64 (dN m s).1) ∧ Rd w' pb B (dN m s).2 ∧ But (fun b => b = pb) w w' := by
 obtain ⟨hp, h⟩ := h
 cases s with
 | none =>
  refine (rnumx_c h hm).mono ?_
  rintro e w' ⟨rfl, h1, h2⟩
  exact ⟨rfl, ⟨hp, h1⟩, h2.but⟩
 | some l =>
  obtain ⟨ao, c, h2, h3⟩ : ∃ ao c, Re w pb ao l.length c (gl l) ∧ (0 < l.length → ∀ b off, ao = some ⟨b, off, none⟩ → b < B) := h
  rw [dN_some]
  by_cases hl : l.length < m
  ·rw [if_pos hl]
   refine (rnums_c h2 hm hl).mono ?_
   rintro e w' ⟨rfl, h1, h4⟩
   exact ⟨rfl, ⟨hp, h1⟩, h4.but⟩
  ·rw [if_neg hl]
   refine (rnum2_c h2 (gl_lt (hs l rfl)) hm h0 (by omega)).mono ?_
   rintro e w' ⟨rfl, ⟨ao', c', h1, h5⟩, h4⟩
   refine ⟨rfl, ⟨hp, ao', c', ?_, fun hn b off e => ?_⟩, h4.but⟩
   ·rw [List.length_drop]
    exact h1.congr fun i hi => (gl_drop l m i).symm
   ·obtain ⟨off0, e0⟩ := h5 b off e
    rw [List.length_drop] at hn
    exact h3 (by omega) b off0 e0
theorem rB_c {pb B : Nat} {s : Rs} {w : World} (h : Rd w pb B s) : Calls Tryz.prog 71 #[.pointer (some ⟨pb, 0, none⟩)] w fun e w' => e = .returned (.bool s.isNone) ∧ w = w' := by
 obtain ⟨hp, h⟩ := h
 cases s with
 | none => exact rbadx_c h
 | some l =>
  obtain ⟨ao, c, h2, h3⟩ : ∃ ao c, Re w pb ao l.length c (gl l) ∧ (0 < l.length → ∀ b off, ao = some ⟨b, off, none⟩ → b < B) := h
  exact rbad_c h2
def isDone (s : Rs) : Bool := match s with | none => false | some l => decide (l.length = 0)
theorem rD_c {pb B : Nat} {s : Rs} {w : World} (h : Rd w pb B s) : Calls Tryz.prog 31 #[.pointer (some ⟨pb, 0, none⟩)] w fun e w' => e = .returned (.bool (isDone s)) ∧ w = w' := by
 obtain ⟨hp, h⟩ := h
 cases s with
 | none => exact rdonex_c h
 | some l =>
  obtain ⟨ao, c, h2, h3⟩ : ∃ ao c, Re w pb ao l.length c (gl l) ∧ (0 < l.length → ∀ b off, ao = some ⟨b, off, none⟩ → b < B) := h
  exact rdone_c h2
theorem rF_c {pb B : Nat} {s : Rs} {w : World} (h : Rd w pb B s) (hs : RsOk s) :
  Calls Tryz.prog 73 #[.pointer (some ⟨pb, 0, none⟩)] w fun e w' => e = .returned (.int .i64 (dN 8 s).1) ∧ Rd w' pb B (dN 8 s).2 ∧ But (fun b => b = pb) w w' := by
 have H := hid (rN_c (m := 8) h hs (by omega) (by omega))
 clear h hs
 go_enter Tryz.func73, Tryz.ntmps73
 go_wp2_with fail
 refine H.out.mono ?_
 rintro e w1 ⟨rfl, h1, h2⟩
 have H1 := hid h1; have H2 := hid h2
 clear h1 h2
 go_wp2_with fail
 go_ret
 exact ⟨rfl, H1.out, H2.out⟩
def dV (s : Rs) : (Int × Int) × Rs := (if (dN 8 (dN 8 s).2).2.isNone then (0, 0) else ((dN 8 s).1, (dN 8 (dN 8 s).2).1), (dN 8 (dN 8 s).2).2)
abbrev paV (p : Int × Int) : Value := .agg #[.int .i64 p.1, .int .i64 p.2]
theorem But.via {X : Nat → Prop} {a b c : World} (h : But X a b) (k : Made b.heap.size b c) : But X a c := h.then_ (Made.but k)
theorem rV_c {pb B : Nat} {s : Rs} {w : World} (h : Rd w pb B s) (hs : RsOk s) (hB : B ≤ w.heap.size) :
  Calls Tryz.prog 61 #[.pointer (some ⟨pb, 0, none⟩)] w fun e w' => e = .returned (paV (dV s).1) ∧ Rd w' pb B (dV s).2 ∧ But (fun b => b = pb) w w' := by
 have HP := hid h.1
 have HB := hid hB
 have KA : Hid (Made w.heap.size w (w.alloc (.cells #[.int .i64 0, .int .i64 0] 28))) := (Made.rfl_ _ _).cells (Nat.le_refl _) _ _
 have H1 := hid (rF_c (h.kept KA.out) hs)
 have HS1 := hid (dN_ok (m := 8) hs)
 clear h hs hB
 obtain ⟨g0, eg0⟩ : ∃ g, w.heap.size = g := ⟨_, rfl⟩
 obtain ⟨x, ex⟩ : ∃ x, (dN 8 s).1 = x := ⟨_, rfl⟩
 obtain ⟨s1, es1⟩ : ∃ z, (dN 8 s).2 = z := ⟨_, rfl⟩
 obtain ⟨y, ey⟩ : ∃ x, (dN 8 s1).1 = x := ⟨_, rfl⟩
 obtain ⟨s2, es2⟩ : ∃ z, (dN 8 s1).2 = z := ⟨_, rfl⟩
 have HV : Hid (dV s = (if s2.isNone then (0, 0) else (x, y), s2)) := by unfold Hid dV; rw [es1, es2, ex, ey]
 have HH0 : Hid (Has (w.alloc (.cells #[.int .i64 0, .int .i64 0] 28)) g0 28 #[.int .i64 0, .int .i64 0]) := by unfold Hid; rw [← eg0]; exact has_new _ _ _
 rw [es1] at HS1
 rw [ex, es1] at H1
 have EX := hid ex; have ES1 := hid es1; have EY := hid ey; have ES2 := hid es2
 clear ex es1 ey es2
 have HG0 := hid eg0
 obtain ⟨W0, eW0⟩ : ∃ W, W = w.alloc (.cells #[.int .i64 0, .int .i64 0] 28) := ⟨_, rfl⟩
 rw [← eW0] at KA H1 HH0
 have hpg : ¬ g0 = pb := fun e => by have := HP.out; have := HB.out; omega
 go_enter Tryz.func61, Tryz.ntmps61
 go_upto_region 1 with fail
 rw [← eW0]
 clear eW0
 try rw [eg0]
 clear eg0
 go_wp2_with fail
 refine H1.out.mono ?_
 rintro e w1 ⟨rfl, h1, k1⟩
 have H2 := hid (rF_c h1 HS1.out)
 rw [EY.out, ES2.out] at H2
 have HH1 := hid (HH0.out.but k1 hpg)
 have K1 := hid ((Made.but KA.out).then_ k1)
 clear h1 k1
 go_wp2_with fail
 refine H2.out.mono ?_
 rintro e w2 ⟨rfl, h2, k2⟩
 have HH2 := hid (HH1.out.but k2 hpg)
 have K2 := hid (K1.out.then_ k2)
 have R2 := hid h2
 clear h2 k2
 obtain ⟨g2, eg2⟩ : ∃ g, w2.heap.size = g := ⟨_, rfl⟩
 have HG2 := hid eg2
 obtain ⟨W, eW⟩ : ∃ W, W = w2.alloc (.cells #[.int .i64 x, .int .i64 y] 28) := ⟨_, rfl⟩
 have KW : Hid (Made w2.heap.size w2 W) := by unfold Hid; rw [eW]; exact (Made.rfl_ _ _).cells (Nat.le_refl _) _ _
 have HHW : Hid (Has W g2 28 #[.int .i64 x, .int .i64 y]) := by unfold Hid; rw [eW, ← eg2]; exact has_new _ _ _
 have HH3 : Hid (Has W g0 28 #[.int .i64 0, .int .i64 0]) := HH2.out.stays KW.out HH2.out.here
 have R3 := hid (R2.out.kept KW.out)
 have K3 := hid (K2.out.via KW.out)
 have b0 : W.cell? ⟨g2, 0, none⟩ = some (.int .i64 x) := HHW.out.at_ 0
 have b1 : W.cell? ⟨g2, 1, none⟩ = some (.int .i64 y) := HHW.out.at_ 1
 have c0 : W.cell? ⟨g0, 0, none⟩ = some (.int .i64 0) := HH3.out.at_ 0
 have c1 : W.cell? ⟨g0, 1, none⟩ = some (.int .i64 0) := HH3.out.at_ 1
 have z0 := HH3.out.free 0
 have z1 := HH3.out.free 1
 have l0 := HH3.out.here
 have H3 := hid (rB_c R3.out)
 go_upto_region 2 with fail
 rw [← eW]
 clear eW
 try rw [eg2]
 clear eg2
 cases s2 with
 | none =>
  go_wp2_with fail
  refine H3.out.mono ?_
  rintro e w4 ⟨rfl, rfl⟩
  go_wp2_with fail
  have r0 : ((W.setCell ⟨g0, 0, none⟩ (.int .i64 0)).setCell ⟨g0, 1, none⟩ (.int .i64 0)).cell? ⟨g0, 0, none⟩ = some (.int .i64 0) := by go_simp
  have r1 : ((W.setCell ⟨g0, 0, none⟩ (.int .i64 0)).setCell ⟨g0, 1, none⟩ (.int .i64 0)).cell? ⟨g0, 1, none⟩ = some (.int .i64 0) := by go_simp
  refine bodyPost_ret (v := paV (0, 0)) (by simp [results, Tryz.results61, go_sem, r0, r1]) rfl ⟨by rw [HV.out]; rfl, ?_, ?_⟩
  ·rw [HV.out]
   refine R3.out.but (((But.rfl_ (fun b => b = g0) W).put (p := ⟨g0, 0, none⟩) (.inl rfl) _).put (p := ⟨g0, 1, none⟩) (.inl rfl) _) (fun b e => by have := HB.out; have := HG0.out; omega)
  ·exact (K3.out.put (p := ⟨g0, 0, none⟩) (.inr (Nat.le_of_eq HG0.out)) _).put (p := ⟨g0, 1, none⟩) (.inr (Nat.le_of_eq HG0.out)) _
 | some l2 =>
  go_wp2_with fail
  refine H3.out.mono ?_
  rintro e w4 ⟨rfl, rfl⟩
  go_wp2_with fail
  have r0 : ((W.setCell ⟨g0, 0, none⟩ (.int .i64 x)).setCell ⟨g0, 1, none⟩ (.int .i64 y)).cell? ⟨g0, 0, none⟩ = some (.int .i64 x) := by go_simp
  have r1 : ((W.setCell ⟨g0, 0, none⟩ (.int .i64 x)).setCell ⟨g0, 1, none⟩ (.int .i64 y)).cell? ⟨g0, 1, none⟩ = some (.int .i64 y) := by go_simp
  refine bodyPost_ret (v := paV (x, y)) (by simp [results, Tryz.results61, go_sem, r0, r1]) rfl ⟨by rw [HV.out]; rfl, ?_, ?_⟩
  ·rw [HV.out]
   refine R3.out.but (((But.rfl_ (fun b => b = g0) W).put (p := ⟨g0, 0, none⟩) (.inl rfl) _).put (p := ⟨g0, 1, none⟩) (.inl rfl) _) (fun b e => by have := HB.out; have := HG0.out; omega)
  ·exact (K3.out.put (p := ⟨g0, 0, none⟩) (.inr (Nat.le_of_eq HG0.out)) _).put (p := ⟨g0, 1, none⟩) (.inr (Nat.le_of_eq HG0.out)) _
end Go.Proofs.YtgdcphmmehedoaaGreat.Fx
/- Package codec: a batch is written. -/
namespace Go.Proofs.YtgdcphmmehedoaaGreat.Fx
open Go.ChangeShapes Go.WideShapes Go.ChangeAt Go.RowKit
set_option linter.unusedVariables false
theorem orB_len (o : Or) : (orB o).length ≤ 16 * o.n + 100 := by
 have h1 : (shB o.k o.r o.n o.f).length ≤ 16 * o.n + 9 := by
  unfold shB
  split
  ·simp only [List.length_append, nb_len]; omega
  ·split
   ·simp only [List.length_append, nb_len, vB_len]; omega
   ·simp only [List.length_append, nb_len, List.length_nil]; omega
 unfold orB
 repeat' split
 all_goals (simp only [List.length_append, nb_len, List.length_nil]; omega)
def batB (L : List Or) : List Nat := nb 2 (L.length : Nat) ++ L.flatMap orB
theorem bat_len : ∀ (L : List Or), (∀ o ∈ L, o.n ≤ 255) → (L.flatMap orB).length ≤ 4180 * L.length
 | [], _ => Nat.le_refl _
 | o :: L, h => by
  have h1 := bat_len L (fun x hx => h x (List.mem_cons_of_mem _ hx))
  have h2 := orB_len o
  have h3 := h o (List.mem_cons_self ..)
  rw [List.flatMap_cons, List.length_append, List.length_cons]
  omega
def OrsLow (pb : Nat) (w : World) (ao : Option Addr) (L : List Or) : Prop := (∀ u, Made pb w u → OrsAt u ao L) ∧ ∀ o ∈ L, 0 < o.n → ∀ b off s, o.ao = some ⟨b, off, s⟩ → b < pb
theorem OrsAt.low {w : World} {ao : Option Addr} {L : List Or} (h : OrsAt w ao L) : OrsLow w.heap.size w ao L := by
 refine ⟨fun u k => h.kept k, fun o ho hn b off s e => ?_⟩
 obtain ⟨b', off', e', hp⟩ := (h.2 o ho).2.2 hn
 rw [e] at e'
 cases e'
 exact World.block_lt_of_cell? _ _ (hp 0 hn).1
theorem wwrite_c {pb n c m : Nat} {v : Value} {L : List Or} {ao : Option Addr} {w : World} (hW : Wv w pb v []) (hL : OrsLow pb w ao L) (hn : L.length = n) (hm : m ≤ 8) (h64 : n ≤ 64) (h255 : ∀ o ∈ L, o.n ≤ 255) :
  Calls Tryz.prog 25 #[.pointer (some ⟨pb, 0, none⟩), .int .i64 (m : Nat), .slice ao n c, .func (.func 26) #[] #[]] w fun e w' => e = .returned (.tuple #[]) ∧ ∃ v', Wv w' pb v' (nb m (n : Nat) ++ L.flatMap orB) ∧ Wc pb w w' v v' := by
 have HW := hid hW
 have HN := hid hn
 have HL := hid hL
 have H5 := hid h255
 have HC := hid (wnum_c (m := m) (X := (n : Nat)) hW hm (by simp) (by omega) (by omega))
 clear hW hn hL h255
 go_enter Tryz.func25, Tryz.ntmps25
 go_wp2_with fail
 refine HC.out.mono ?_
 rintro e w1 ⟨rfl, v1, hW1, hC1⟩
 have HW1 := hid hW1
 have HC1 := hid hC1
 clear hW1 hC1
 go_wp2_with fail
 go_loopg [19] n (fun gg s19 wx => ∃ (k : Nat) (v2 : Value), k + gg = n ∧ s19 = .int .i64 (k : Nat) ∧ Hid (Wv wx pb v2 (nb m (n : Nat) ++ (L.take k).flatMap orB)) ∧ Hid (Wc pb w wx v v2))
 case atStart => exact ⟨0, v1, by omega, by first | rfl | trivial, by rw [show (L.take 0).flatMap orB = [] from rfl, List.append_nil]; exact HW1.out, HC1.out⟩
 case round =>
  obtain ⟨k, v2, hk, rfl, HW2, HC2⟩ := hrel
  by_cases hlt : k < n
  ·obtain ⟨a, ea⟩ : ∃ a, L[k]? = some a := ⟨_, List.getElem?_eq_getElem (by rw [HN.out]; omega)⟩
   have hor := HL.out.1 wr (Wc.low HW.out HC2.out)
   obtain ⟨b, off, rfl, hbl, hLB⟩ := hor.1 (by rw [HN.out]; omega)
   have hmem := List.mem_of_getElem? ea
   obtain ⟨hi, _, hs⟩ := hor.2 a hmem
   have HLow := hid (HL.out.2 a hmem)
   have HA5 := hid (H5.out a hmem)
   have HA := hid ea
   have hcells := (hLB k _ ea).o15
   have HI := hid hi
   have HS := hid hs
   clear ea hLB hor hmem hi hs
   obtain ⟨x0, x1, x2, x3, x4, x5, x6, x7, x8, x9, x10, x11, x12, x13, x14, x15, x16, x17⟩ := a
   obtain ⟨a0, a1, a2, a3, a4, a5, a6, a7, a8, a9, a10, a11, a12, a13, a14⟩ := hcells
   simp only [] at a0 a1 a2 a3 a4 a5 a6 a7 a8 a9 a10 a11 a12 a13 a14
   obtain ⟨W, eW⟩ : ∃ W, W = wr.alloc (.cells #[.int .i64 x0, .int .i64 x1, .int .i64 x2, .int .i64 x3, .int .i64 x4, .int .i64 x5, .int .i64 x6, .int .i64 x7, .int .i64 x8, .int .i64 x9, .int .i64 x10, .int .i64 x11, .int .i64 x12, .int .i64 x13, .slice x14 x15 x16] 49) := ⟨_, rfl⟩
   have KW : Hid (Made wr.heap.size wr W) := by unfold Hid; rw [eW]; exact (Made.rfl_ _ _).cells (Nat.le_refl _) _ _
   obtain ⟨g1, eg1⟩ : ∃ g, wr.heap.size = g := ⟨_, rfl⟩
   have HB : Hid (Has W g1 49 #[.int .i64 x0, .int .i64 x1, .int .i64 x2, .int .i64 x3, .int .i64 x4, .int .i64 x5, .int .i64 x6, .int .i64 x7, .int .i64 x8, .int .i64 x9, .int .i64 x10, .int .i64 x11, .int .i64 x12, .int .i64 x13, .slice x14 x15 x16]) := by unfold Hid; rw [eW, ← eg1]; exact has_new _ _ _
   have b0 : W.cell? ⟨g1, 0, none⟩ = some (.int .i64 x0) := HB.out.at_ 0
   have b1 : W.cell? ⟨g1, 1, none⟩ = some (.int .i64 x1) := HB.out.at_ 1
   have b2 : W.cell? ⟨g1, 2, none⟩ = some (.int .i64 x2) := HB.out.at_ 2
   have b3 : W.cell? ⟨g1, 3, none⟩ = some (.int .i64 x3) := HB.out.at_ 3
   have b4 : W.cell? ⟨g1, 4, none⟩ = some (.int .i64 x4) := HB.out.at_ 4
   have b5 : W.cell? ⟨g1, 5, none⟩ = some (.int .i64 x5) := HB.out.at_ 5
   have b6 : W.cell? ⟨g1, 6, none⟩ = some (.int .i64 x6) := HB.out.at_ 6
   have b7 : W.cell? ⟨g1, 7, none⟩ = some (.int .i64 x7) := HB.out.at_ 7
   have b8 : W.cell? ⟨g1, 8, none⟩ = some (.int .i64 x8) := HB.out.at_ 8
   have b9 : W.cell? ⟨g1, 9, none⟩ = some (.int .i64 x9) := HB.out.at_ 9
   have b10 : W.cell? ⟨g1, 10, none⟩ = some (.int .i64 x10) := HB.out.at_ 10
   have b11 : W.cell? ⟨g1, 11, none⟩ = some (.int .i64 x11) := HB.out.at_ 11
   have b12 : W.cell? ⟨g1, 12, none⟩ = some (.int .i64 x12) := HB.out.at_ 12
   have b13 : W.cell? ⟨g1, 13, none⟩ = some (.int .i64 x13) := HB.out.at_ 13
   have b14 : W.cell? ⟨g1, 14, none⟩ = some (.slice x14 x15 x16) := HB.out.at_ 14
   have hll : (nb m (n : Nat) ++ (L.take k).flatMap orB).length ≤ 8 + 4180 * 64 := by
    rw [List.length_append, nb_len]
    have h := bat_len (L.take k) (fun o ho => H5.out o (List.mem_of_mem_take ho))
    have h2 : (L.take k).length ≤ 64 := by rw [List.length_take]; omega
    omega
   have HCC := hid (worder_c (⟨x0, x1, x2, x3, x4, x5, x6, x7, x8, x9, x10, x11, x12, x13, x14, x15, x16, x17⟩ : Or) (HW2.out.kept KW.out) HI.out (Sl.kept HS.out KW.out) (fun hn b off s e => HW2.out.off (.inl (HLow.out hn b off s e))) (by have h := HA5.out; simp only [] at h ⊢; omega))
   clear hll
   go_upto_region 4 with fail
   rw [← eW]
   clear eW
   try rw [eg1]
   clear eg1
   go_wp2_with fail
   refine HCC.out.mono ?_
   rintro e w' ⟨rfl, v3, hW3, hC3⟩
   have HW3 : Hid (Wv w' pb v3 (nb m (n : Nat) ++ (L.take (k + 1)).flatMap orB)) := by
    unfold Hid
    have e1 : L.take (k + 1) = L.take k ++ [(⟨x0, x1, x2, x3, x4, x5, x6, x7, x8, x9, x10, x11, x12, x13, x14, x15, x16, x17⟩ : Or)] := by rw [List.take_add_one, HA.out]; rfl
    rw [e1, List.flatMap_append, ← List.append_assoc]
    simpa using hW3
   have HC3 := hid ((HC2.out.made KW.out).then_ hC3)
   clear hW3 hC3
   go_wp2_with fail
   go_roundg (n - (k + 1))
   case measure => omega
   case rel => exact ⟨k + 1, v3, by omega, by go_num, HW3.out, HC3.out⟩
  ·have e : k = n := by omega
   go_wp2_with fail
   refine cvoid_end rfl rfl ⟨rfl, v2, ?_, HC2.out⟩
   have h := HW2.out
   rw [List.take_of_length_le (by rw [HN.out]; omega)] at h
   exact h
theorem cbatch_c {n c : Nat} {L : List Or} {ao : Option Addr} {w : World} (hL : OrsAt w ao L) (hn : L.length = n) (h64 : n ≤ 64) (h255 : ∀ o ∈ L, o.n ≤ 255) :
  Calls Tryz.prog 9 #[.slice ao n c] w fun e w' => ∃ ao' m c', e = .returned (.slice ao' m c') ∧ (batB L).length = m ∧ m ≤ 300000 ∧ m ≤ c' ∧ OB w' w.heap.size (.slice ao' m c') m (gl (batB L)) ∧ Made w.heap.size w w' := by
 have HW := hid (Wv.new w 80)
 have HK : Hid (Made w.heap.size w (w.alloc (.cells #[Value.slice none 0 0] 80))) := (Made.rfl_ _ _).cells (Nat.le_refl _) _ _
 have HL := hid hL.low
 have HN := hid hn
 have H5 := hid h255
 have HC := hid (wwrite_c (m := 2) (c := c) (L := L) HW.out ⟨fun u k => HL.out.1 u (HK.out.then_ k), HL.out.2⟩ hn (by omega) h64 h255)
 clear hL hn h255
 go_enter Tryz.func9, Tryz.ntmps9
 go_wp2_with fail
 refine HC.out.mono ?_
 rintro e w1 ⟨rfl, v1, hW1, hC1⟩
 have hlen : (batB L).length ≤ 300000 := by
  unfold batB
  rw [List.length_append, nb_len]
  have := bat_len L H5.out
  rw [HN.out] at this
  omega
 have HW1 : Hid (Wv w1 w.heap.size v1 (batB L)) := by
  unfold Hid batB
  rw [HN.out]
  exact hW1
 have HK1 := hid (HK.out.then_ (Wc.low HW.out hC1))
 clear hW1 hC1
 go_wp2_with fail
 refine (wbytes_c HW1.out (by omega)).mono ?_
 rintro e w2 ⟨ao', c', rfl, hc', hO, hM⟩
 have HO := hid hO
 have HM := hid (HK1.out.then_ (hM.low HK1.out.1.size))
 have HLe := hid HK1.out.1.size
 clear hO hM
 go_wp2_with fail
 go_ret
 exact ⟨ao', _, c', rfl, rfl, hlen, hc', HO.out.low HLe.out, HM.out⟩
end Go.Proofs.YtgdcphmmehedoaaGreat.Fx
/- Layer 15, plain: what is read of a batch, and that it is what was written. -/
namespace Go.Proofs.YtgdcphmmehedoaaGreat.Fx
open Go.ChangeShapes Go.WideShapes Go.ChangeAt Go.RowKit
set_option linter.unusedVariables false
def dRead {α : Type} (one : Rs → α × Rs) : Nat → Rs → List α × Rs
 | 0, s => ([], s)
 | n + 1, s => if s.isNone then ([], s) else ((one s).1 :: (dRead one n (one s).2).1, (dRead one n (one s).2).2)
theorem dRead_some {α : Type} (one : Rs → α × Rs) (n : Nat) (l : List Nat) : dRead one (n + 1) (some l) = ((one (some l)).1 :: (dRead one n (one (some l)).2).1, (dRead one n (one (some l)).2).2) := rfl
def gP (l : List (Int × Int)) : Cs := fun i => l.getD i (0, 0)
def vBl (l : List (Int × Int)) : List Nat := l.flatMap fun p => nb 8 p.1 ++ nb 8 p.2
structure ShD where
 k : Int
 r : Int
 p : List (Int × Int)
def dS (s : Rs) : ShD × Rs :=
 if (dN 1 s).1 = 1 then (⟨1, (dN 8 (dN 1 s).2).1, []⟩, (dN 8 (dN 1 s).2).2)
 else if (dN 1 s).1 = 2 then (⟨2, 0, (dRead dV (dN 1 (dN 1 s).2).1.toNat (dN 1 (dN 1 s).2).2).1⟩, (dRead dV (dN 1 (dN 1 s).2).1.toNat (dN 1 (dN 1 s).2).2).2)
 else (⟨(dN 1 s).1, 0, []⟩, (dN 1 s).2)
def dO1 (s : Rs) : Or × Rs :=
 let p := dV s; let v := dV p.2; let a := dN 8 v.2; let w := dN 8 a.2; let d := dN 8 w.2; let h := dS d.2
 (⟨1, 0, 0, 0, p.1.1, p.1.2, v.1.1, v.1.2, a.1, w.1, d.1, 0, h.1.k, h.1.r, none, h.1.p.length, 0, gP h.1.p⟩, h.2)
def dO2 (k : Int) (s : Rs) : Or × Rs := ({ Or.kind k with id := (dN 8 s).1 }, (dN 8 s).2)
def dO3 (s : Rs) : Or × Rs :=
 let a := dN 8 s; let b := dN 8 a.2; let p := dV b.2; let v := dV p.2; let l := dN 8 v.2
 ({ Or.kind 3 with a := a.1, b := b.1, x := p.1.1, y := p.1.2, vx := v.1.1, vy := v.1.2, ln := l.1 }, l.2)
def dO5 (s : Rs) : Or × Rs :=
 let i := dN 8 s; let v := dV i.2; let w := dN 8 v.2
 ({ Or.kind 5 with id := i.1, vx := v.1.1, vy := v.1.2, sp := w.1 }, w.2)
def dO6 (s : Rs) : Or × Rs := ({ Or.kind 6 with vx := (dV s).1.1, vy := (dV s).1.2 }, (dV s).2)
def dO (s : Rs) : Or × Rs :=
 if (dN 1 s).1 = 1 then dO1 (dN 1 s).2
 else if (dN 1 s).1 = 2 ∨ (dN 1 s).1 = 4 then dO2 (dN 1 s).1 (dN 1 s).2
 else if (dN 1 s).1 = 3 then dO3 (dN 1 s).2
 else if (dN 1 s).1 = 5 then dO5 (dN 1 s).2
 else if (dN 1 s).1 = 6 then dO6 (dN 1 s).2
 else (Or.kind (dN 1 s).1, (dN 1 s).2)
theorem dV_of {x y : Int} (hx : I64 x) (hy : I64 y) (l : List Nat) : dV (some (nb 8 x ++ (nb 8 y ++ l))) = ((x, y), some l) := by
 unfold dV
 rw [dN_nb8 x hx, dN_nb8 y hy]
 rfl
theorem dRead_of {α β : Type} {one : Rs → β × Rs} {enc : α → List Nat} (g : α → β) : ∀ (ds : List α) (l : List Nat), (∀ d ∈ ds, ∀ l, one (some (enc d ++ l)) = (g d, some l)) → dRead one ds.length (some (ds.flatMap enc ++ l)) = (ds.map g, some l)
 | [], l, _ => rfl
 | d :: ds, l, h => by
  rw [List.length_cons, List.flatMap_cons, List.append_assoc, dRead_some, h d (List.mem_cons_self ..), dRead_of g ds l (fun x hx => h x (List.mem_cons_of_mem _ hx))]
  rfl
def ptsL (n : Nat) (f : Cs) : List (Int × Int) := (List.range n).map f
theorem ptsL_len (n : Nat) (f : Cs) : (ptsL n f).length = n := by simp [ptsL]
theorem gP_ptsL (n : Nat) (f : Cs) (i : Nat) (h : i < n) : gP (ptsL n f) i = f i := by
 unfold gP ptsL
 simp [List.getD_eq_getElem?_getD, h]
theorem vB_ptsL (n : Nat) (f : Cs) : vB f n = (ptsL n f).flatMap fun p => nb 8 p.1 ++ nb 8 p.2 := by
 unfold vB ptsL
 rw [List.flatMap_map]
theorem dS_of {k r : Int} {n : Nat} {f : Cs} (hP : RightP k r n f) (hr : I64 r) (hf : Cin f n) (l : List Nat) : dS (some (shB k r n f ++ l)) = (⟨k, r, ptsL n f⟩, some l) := by
 rcases hP with ⟨rfl, rfl, _, _⟩ | ⟨rfl, rfl, h3, h8, _, _⟩
 ·have e : shB 1 r 0 f ++ l = nb 1 1 ++ (nb 8 r ++ l) := by unfold shB; rw [if_pos rfl, List.append_assoc]
  rw [e]
  unfold dS
  rw [dN_nb 1 (by omega) 1 (by omega) (by omega), if_pos rfl, dN_nb8 r hr]
  rfl
 ·have e : shB 2 0 n f ++ l = nb 1 2 ++ (nb 1 (n : Nat) ++ ((ptsL n f).flatMap (fun p => nb 8 p.1 ++ nb 8 p.2) ++ l)) := by
   unfold shB
   rw [if_neg (show ¬ (2 : Int) = 1 by decide), if_pos rfl, vB_ptsL, List.append_assoc, List.append_assoc]
  rw [e]
  unfold dS
  rw [dN_nb 1 (by omega) 2 (by omega) (by omega), if_neg (show ¬ (2 : Int) = 1 by decide), if_pos rfl, dN_nb 1 (by omega) (n : Nat) (by omega) (by omega)]
  have h := dRead_of (one := dV) (enc := fun p : Int × Int => nb 8 p.1 ++ nb 8 p.2) id (ptsL n f) l (fun d hd l => by
   obtain ⟨i, hi, rfl⟩ := List.mem_map.1 hd
   have := hf i (List.mem_range.1 hi)
   rw [List.append_assoc]
   exact dV_of this.1 this.2 l)
  rw [ptsL_len, List.map_id] at h
  simp only [Int.toNat_natCast]
  rw [h]
def nrm (o : Or) : Or := { o with ao := none, c := 0, f := gP (ptsL o.n o.f) }
def dC (most : Int) (s : Rs) : Int × Rs := if most < (dN 2 s).1 then (0, none) else dN 2 s
def dBat (s : Rs) : List Or × Rs := dRead dO (dC 64 s).1.toNat (dC 64 s).2
end Go.Proofs.YtgdcphmmehedoaaGreat.Fx
/- Package codec: bodies, joints and contacts are written. -/
namespace Go.Proofs.YtgdcphmmehedoaaGreat.Fx
open Go.ChangeShapes Go.WideShapes Go.ChangeAt Go.RowKit
set_option linter.unusedVariables false
def bdB (b : Bd) : List Nat := nb 8 b.id ++ (nb 8 b.x ++ nb 8 b.y ++ (nb 8 b.vx ++ nb 8 b.vy)) ++ (nb 8 b.an ++ nb 8 b.sp ++ nb 8 b.de) ++ shB b.k b.r b.n b.f
def jtB (j : Jt) : List Nat := nb 8 j.id ++ nb 8 j.a ++ nb 8 j.b ++ (nb 8 j.ax ++ nb 8 j.ay ++ (nb 8 j.tx ++ nb 8 j.ty)) ++ nb 8 j.ln
def ctB (c : Ct) : List Nat := nb 8 c.a ++ nb 8 c.b ++ nb 8 c.key ++ (nb 8 c.n ++ nb 8 c.t)
theorem fB2 (x y : Int) : fB (fun i => if i = 0 then x else y) 2 = nb 8 x ++ nb 8 y := by rw [fB_next, fB_next]; rfl
theorem i64_f2 {x y : Int} (hx : I64 x) (hy : I64 y) : ∀ i, i < 2 → I64 (if i = 0 then x else y) := fun i _ => by
 split
 ·exact hx
 ·exact hy
theorem cwbody_c1 {pb : Nat} {v : Value} {l : List Nat} {id x y vx vy an sp de k r : Int} {n c : Nat} {ao : Option Addr} {f : Cs} {w : World} (hW : Wv w pb v l) (hI : BdI (⟨id, x, y, vx, vy, an, sp, de, k, r, ao, n, c, f⟩ : Bd)) (hs : Sl w ao n f) (hX : 0 < n → Offs (OwnW pb v) ao) (hn : l.length + 16 * n + 200 ≤ 549755813888) :
  Calls Tryz.prog 50 #[.pointer (some ⟨pb, 0, none⟩), .agg #[.int .i64 id, .int .i64 x, .int .i64 y, .int .i64 vx, .int .i64 vy, .int .i64 an, .int .i64 sp, .int .i64 de, .int .i64 k, .int .i64 r, .slice ao n c]] w fun e w' => e = .returned (.tuple #[]) ∧ ∃ v', Wv w' pb v' (l ++ bdB (⟨id, x, y, vx, vy, an, sp, de, k, r, ao, n, c, f⟩ : Bd)) ∧ Wc pb w w' v v' := by
 have HW := hid hW
 have HI := hid hI
 have HS := hid hs
 have HX := hid hX
 obtain ⟨W, eW⟩ : ∃ W, W = w.alloc (.cells #[.int .i64 id, .int .i64 x, .int .i64 y, .int .i64 vx, .int .i64 vy, .int .i64 an, .int .i64 sp, .int .i64 de, .int .i64 k, .int .i64 r, .slice ao n c] 35) := ⟨_, rfl⟩
 have KW : Hid (Made w.heap.size w W) := by unfold Hid; rw [eW]; exact (Made.rfl_ _ _).cells (Nat.le_refl _) _ _
 obtain ⟨g1, eg1⟩ : ∃ g, w.heap.size = g := ⟨_, rfl⟩
 have HB : Hid (Has W g1 35 #[.int .i64 id, .int .i64 x, .int .i64 y, .int .i64 vx, .int .i64 vy, .int .i64 an, .int .i64 sp, .int .i64 de, .int .i64 k, .int .i64 r, .slice ao n c]) := by unfold Hid; rw [eW, ← eg1]; exact has_new _ _ _
 have HG : Hid (¬ OwnW pb v g1) := HW.out.off (.inr (Nat.le_of_eq eg1))
 have HW1 := hid (HW.out.kept KW.out)
 have e0 : W.cell? ⟨g1, 0, none⟩ = some (.int .i64 id) := HB.out.at_ 0
 have e1 : W.cell? ⟨g1, 1, none⟩ = some (.int .i64 x) := HB.out.at_ 1
 have e2 : W.cell? ⟨g1, 2, none⟩ = some (.int .i64 y) := HB.out.at_ 2
 have e3 : W.cell? ⟨g1, 3, none⟩ = some (.int .i64 vx) := HB.out.at_ 3
 have e4 : W.cell? ⟨g1, 4, none⟩ = some (.int .i64 vy) := HB.out.at_ 4
 have e5 : W.cell? ⟨g1, 5, none⟩ = some (.int .i64 an) := HB.out.at_ 5
 have e6 : W.cell? ⟨g1, 6, none⟩ = some (.int .i64 sp) := HB.out.at_ 6
 have e7 : W.cell? ⟨g1, 7, none⟩ = some (.int .i64 de) := HB.out.at_ 7
 clear hW hI hs hX
 go_enter Tryz.func50, Tryz.ntmps50
 go_upto_region 1 with fail
 rw [← eW]
 clear eW
 try rw [eg1]
 clear eg1
 refine RF.reg_flow (CW W pb v [l, l ++ nb 8 id, l ++ nb 8 id ++ vB (c2 x y vx vy) 2, l ++ nb 8 id ++ vB (c2 x y vx vy) 2 ++ fB (f3 an sp de) 3] [⟨10, 28, 2, #[.int .i64 x, .int .i64 y, .int .i64 vx, .int .i64 vy]⟩, ⟨18, 26, 3, #[.int .i64 an, .int .i64 sp, .int .i64 de]⟩]) [[5, 11, 19], [10], [18]] [(10, 14), (18, 22)] [0, 1, 2, 3, 4, 6, 7, 8, 9, 12, 13, 14, 15, 16, 17] [(9, .pointer (some ⟨pb, 0, none⟩)), (15, .pointer (some ⟨pb, 0, none⟩)), (23, .pointer (some ⟨pb, 0, none⟩))] 28 (by kernel_rfl) (CW.start HW1.out) (by kernel_rfl) rfl (by kernel_rfl) (by kernel_rfl) ?_
 apply Exists.intro
 refine ⟨?q1a, ?q1b, ?q1c⟩
 case q1a =>
  intro s G Ty hT f hf
  have z0 := CW.reads hf e0 HG.out
  have z1 := CW.reads hf e1 HG.out
  have z2 := CW.reads hf e2 HG.out
  have z3 := CW.reads hf e3 HG.out
  have z4 := CW.reads hf e4 HG.out
  have z5 := CW.reads hf e5 HG.out
  have z6 := CW.reads hf e6 HG.out
  have z7 := CW.reads hf e7 HG.out
  clear hf
  simp only [RF.putF, Act.put, List.setIfInBounds_toArray, List.set_cons_succ, List.set_cons_zero]
  change wpQuiet _ _ _ _ [_, _, _, _, _, _, _, _, _, _, _, _, _, _, _] _
  repeat (go_big_quiet_step (fail))
  exact wpQuiet_nil rfl
 case q1b =>
  refine ⟨⟨?_, ?_, ?_, trivial⟩, ⟨?_, trivial⟩, ⟨?_, trivial⟩, trivial⟩
  ·intro s G u hC hk hw
   rw [show (execOp _ _).run Tryz.prog u = .ok (.enter 19 #[.pointer (some ⟨pb, 0, none⟩), .int .i64 8, .int .i64 id]) u by kernel_rfl]
   refine CW.call hC hk rfl (fun d e => by cases e; rfl) fun v hv hc ha => ?_
   refine (wnum_c (m := 8) hv (by omega) (by show List.length (l)  ≤ _; omega) (HI.out.id.1) (HI.out.id.2)).mono ?_
   rintro e u' ⟨rfl, v', h1, h2⟩
   exact ⟨rfl, v', h1, h2⟩
  ·intro s G u hC hk hw
   rw [show (execOp _ _).run Tryz.prog u = .ok (.enter 20 #[.pointer (some ⟨pb, 0, none⟩), G 10]) u by kernel_rfl]
   refine CW.call hC hk rfl (fun d e => by cases e; rfl) fun v hv hc ha => ?_
   obtain ⟨g, eg, hg, og⟩ := ha 0 _ rfl (hw 1 0 10 rfl (by kernel_rfl))
   rw [show G 10 = _ from eg]
   refine (wv_c (n := 2) (c := 2) hv (sl2 hg) (fun _ => offs_of og (by omega)) (cin_c2 HI.out.x HI.out.y HI.out.vx HI.out.vy) (by show List.length (l ++ nb 8 id) + 16 * 2 ≤ _; simp only [List.length_append, nb_len]; omega)).mono ?_
   rintro e u' ⟨rfl, v', h1, h2⟩
   exact ⟨rfl, v', h1, h2⟩
  ·intro s G u hC hk hw
   rw [show (execOp _ _).run Tryz.prog u = .ok (.enter 34 #[.pointer (some ⟨pb, 0, none⟩), G 18]) u by kernel_rfl]
   refine CW.call hC hk rfl (fun d e => by cases e; rfl) fun v hv hc ha => ?_
   obtain ⟨g, eg, hg, og⟩ := ha 1 _ rfl (hw 2 0 18 rfl (by kernel_rfl))
   rw [show G 18 = _ from eg]
   refine (wf_c (n := 3) (c := 3) hv (ns3 hg) (fun _ => offs_of og (by omega)) (i64_f3 HI.out.an HI.out.sp HI.out.de) (by show List.length (l ++ nb 8 id ++ vB (c2 x y vx vy) 2) + 8 * 3 ≤ _; simp only [List.length_append, nb_len, vB_len]; omega)).mono ?_
   rintro e u' ⟨rfl, v', h1, h2⟩
   exact ⟨rfl, v', h1, h2⟩
  ·intro s G u hC hk hw
   rw [show (execOp _ _).run Tryz.prog u = .ok (.value (.slice (some ⟨u.heap.size, 0, none⟩) 2 2)) (u.alloc (.cells #[.int .i64 x, .int .i64 y, .int .i64 vx, .int .i64 vy] 28)) by kernel_rfl]
   exact CW.make (i := 0) hC _ rfl rfl (fun i' a' h hne => by
    match i', h with
    | 0, h => exact absurd rfl hne
    | 1, h => cases h; exact Nat.ne_of_beq_eq_false rfl
    | n + 2, h => simp at h)
  ·intro s G u hC hk hw
   rw [show (execOp _ _).run Tryz.prog u = .ok (.value (.slice (some ⟨u.heap.size, 0, none⟩) 3 3)) (u.alloc (.cells #[.int .i64 an, .int .i64 sp, .int .i64 de] 26)) by kernel_rfl]
   exact CW.make (i := 1) hC _ rfl rfl (fun i' a' h hne => by
    match i', h with
    | 0, h => cases h; exact Nat.ne_of_beq_eq_false rfl
    | 1, h => exact absurd rfl hne
    | n + 2, h => simp at h)
 case q1c =>
  intro G u2 hu
  obtain ⟨v2, hv2, hc2, _⟩ := hu
  have HV2 : Hid (Wv u2 pb v2 (l ++ nb 8 id ++ vB (c2 x y vx vy) 2 ++ fB (f3 an sp de) 3)) := hv2
  have HC2 := hid hc2
  have y8 := hc2.but.cell (HB.out.at_ 8) HG.out
  have y9 := hc2.but.cell (HB.out.at_ 9) HG.out
  have y10 := hc2.but.cell (HB.out.at_ 10) HG.out
  simp at y8 y9 y10
  have hl2 : Hid ((l ++ nb 8 id ++ vB (c2 x y vx vy) 2 ++ fB (f3 an sp de) 3).length + 16 * n + 32 ≤ 549755813888) := by unfold Hid; simp only [List.length_append, nb_len, vB_len, fB_len]; omega
  have HS2 : Sl W ao n f := Sl.kept HS.out KW.out
  have HCC := hid (wshape_c (c := c) HV2.out HI.out.k HI.out.r (fun h => by obtain ⟨b, off, e, hp⟩ := HS2 h; exact ⟨b, off, e, hp.but HC2.out.but (HX.out h b off none e)⟩) (fun h b off s e => by obtain ⟨b', off', e', hp⟩ := HS2 h; rw [e] at e'; cases e'; exact HC2.out.offs (World.block_lt_of_cell? _ _ (hp 0 h).1) (HX.out h b off none e)) HI.out.f hl2.out)
  clear hv2 hc2 e0 e1 e2 e3 e4 e5 e6 e7 HS2
  simp only [RF.AG, Act.put, List.setIfInBounds_toArray, List.set_cons_succ, List.set_cons_zero]
  go_wp2_with fail
  refine HCC.out.mono ?_
  rintro e u3 ⟨rfl, v3, hv3, hc3⟩
  have HV3 := hid hv3
  have HC3 := hid hc3
  clear hv3 hc3 y8 y9 y10
  go_wp2_with fail
  refine cvoid_end rfl rfl ⟨rfl, v3, ?_, ((Wc.rfl_ _ _ _).made KW.out).then_ (HC2.out.then_ HC3.out)⟩
  have h := HV3.out
  unfold bdB
  rw [vB2, fB3] at h
  simpa only [List.append_assoc] using h
theorem cwbody_c {pb : Nat} {v : Value} {l : List Nat} (x : Bd) {w : World} (hW : Wv w pb v l) (hI : BdI x) (hs : Sl w x.ao x.n x.f) (hX : 0 < x.n → Offs (OwnW pb v) x.ao) (hn : l.length + 16 * x.n + 200 ≤ 549755813888) :
  Calls Tryz.prog 50 #[.pointer (some ⟨pb, 0, none⟩), bdV x] w fun e w' => e = .returned (.tuple #[]) ∧ ∃ v', Wv w' pb v' (l ++ bdB x) ∧ Wc pb w w' v v' := by
 obtain ⟨id, x, y, vx, vy, an, sp, de, k, r, ao, n, c, f⟩ := x
 exact cwbody_c1 hW hI hs hX hn
theorem cwjoint_c1 {pb : Nat} {v : Value} {l : List Nat} {id a b ax ay tx ty ln : Int} {w : World} (hW : Wv w pb v l) (hI : JtI (⟨id, a, b, ax, ay, tx, ty, ln⟩ : Jt)) (hn : l.length + 200 ≤ 549755813888) :
  Calls Tryz.prog 52 #[.pointer (some ⟨pb, 0, none⟩), .agg #[.int .i64 id, .int .i64 a, .int .i64 b, .int .i64 ax, .int .i64 ay, .int .i64 tx, .int .i64 ty, .int .i64 ln]] w fun e w' => e = .returned (.tuple #[]) ∧ ∃ v', Wv w' pb v' (l ++ jtB (⟨id, a, b, ax, ay, tx, ty, ln⟩ : Jt)) ∧ Wc pb w w' v v' := by
 have HW := hid hW
 have HI := hid hI
 obtain ⟨W, eW⟩ : ∃ W, W = w.alloc (.cells #[.int .i64 id, .int .i64 a, .int .i64 b, .int .i64 ax, .int .i64 ay, .int .i64 tx, .int .i64 ty, .int .i64 ln] 102) := ⟨_, rfl⟩
 have KW : Hid (Made w.heap.size w W) := by unfold Hid; rw [eW]; exact (Made.rfl_ _ _).cells (Nat.le_refl _) _ _
 obtain ⟨g1, eg1⟩ : ∃ g, w.heap.size = g := ⟨_, rfl⟩
 have HB : Hid (Has W g1 102 #[.int .i64 id, .int .i64 a, .int .i64 b, .int .i64 ax, .int .i64 ay, .int .i64 tx, .int .i64 ty, .int .i64 ln]) := by unfold Hid; rw [eW, ← eg1]; exact has_new _ _ _
 have HG : Hid (¬ OwnW pb v g1) := HW.out.off (.inr (Nat.le_of_eq eg1))
 have HW1 := hid (HW.out.kept KW.out)
 have e0 : W.cell? ⟨g1, 0, none⟩ = some (.int .i64 id) := HB.out.at_ 0
 have e1 : W.cell? ⟨g1, 1, none⟩ = some (.int .i64 a) := HB.out.at_ 1
 have e2 : W.cell? ⟨g1, 2, none⟩ = some (.int .i64 b) := HB.out.at_ 2
 have e3 : W.cell? ⟨g1, 3, none⟩ = some (.int .i64 ax) := HB.out.at_ 3
 have e4 : W.cell? ⟨g1, 4, none⟩ = some (.int .i64 ay) := HB.out.at_ 4
 have e5 : W.cell? ⟨g1, 5, none⟩ = some (.int .i64 tx) := HB.out.at_ 5
 have e6 : W.cell? ⟨g1, 6, none⟩ = some (.int .i64 ty) := HB.out.at_ 6
 have e7 : W.cell? ⟨g1, 7, none⟩ = some (.int .i64 ln) := HB.out.at_ 7
 clear hW hI
 go_enter Tryz.func52, Tryz.ntmps52
 go_upto_region 1 with fail
 rw [← eW]
 clear eW
 try rw [eg1]
 clear eg1
 refine RF.reg_flow (CW W pb v [l, l ++ nb 8 id, l ++ nb 8 id ++ nb 8 a, l ++ nb 8 id ++ nb 8 a ++ nb 8 b, l ++ nb 8 id ++ nb 8 a ++ nb 8 b ++ vB (c2 ax ay tx ty) 2, l ++ nb 8 id ++ nb 8 a ++ nb 8 b ++ vB (c2 ax ay tx ty) 2 ++ fB (fun _ => ln) 1] [⟨16, 28, 2, #[.int .i64 ax, .int .i64 ay, .int .i64 tx, .int .i64 ty]⟩, ⟨20, 26, 1, #[.int .i64 ln]⟩]) [[5, 8, 11, 17, 21], [16], [20]] [(16, 20), (20, 24)] [0, 1, 2, 3, 4, 6, 7, 9, 10, 12, 13, 14, 15, 18, 19] [(9, .pointer (some ⟨pb, 0, none⟩)), (12, .pointer (some ⟨pb, 0, none⟩)), (15, .pointer (some ⟨pb, 0, none⟩)), (21, .pointer (some ⟨pb, 0, none⟩)), (25, .pointer (some ⟨pb, 0, none⟩))] 26 (by kernel_rfl) (CW.start HW1.out) (by kernel_rfl) rfl (by kernel_rfl) (by kernel_rfl) ?_
 apply Exists.intro
 refine ⟨?q2a, ?q2b, ?q2c⟩
 case q2a =>
  intro s G Ty hT f hf
  have z0 := CW.reads hf e0 HG.out
  have z1 := CW.reads hf e1 HG.out
  have z2 := CW.reads hf e2 HG.out
  have z3 := CW.reads hf e3 HG.out
  have z4 := CW.reads hf e4 HG.out
  have z5 := CW.reads hf e5 HG.out
  have z6 := CW.reads hf e6 HG.out
  have z7 := CW.reads hf e7 HG.out
  clear hf
  simp only [RF.putF, Act.put, List.setIfInBounds_toArray, List.set_cons_succ, List.set_cons_zero]
  change wpQuiet _ _ _ _ [_, _, _, _, _, _, _, _, _, _, _, _, _, _, _] _
  repeat (go_big_quiet_step (fail))
  exact wpQuiet_nil rfl
 case q2b =>
  refine ⟨⟨?_, ?_, ?_, ?_, ?_, trivial⟩, ⟨?_, trivial⟩, ⟨?_, trivial⟩, trivial⟩
  ·intro s G u hC hk hw
   rw [show (execOp _ _).run Tryz.prog u = .ok (.enter 19 #[.pointer (some ⟨pb, 0, none⟩), .int .i64 8, .int .i64 id]) u by kernel_rfl]
   refine CW.call hC hk rfl (fun d e => by cases e; rfl) fun v hv hc ha => ?_
   refine (wnum_c (m := 8) hv (by omega) (by show List.length (l)  ≤ _; omega) (HI.out.1.1) (HI.out.1.2)).mono ?_
   rintro e u' ⟨rfl, v', h1, h2⟩
   exact ⟨rfl, v', h1, h2⟩
  ·intro s G u hC hk hw
   rw [show (execOp _ _).run Tryz.prog u = .ok (.enter 19 #[.pointer (some ⟨pb, 0, none⟩), .int .i64 8, .int .i64 a]) u by kernel_rfl]
   refine CW.call hC hk rfl (fun d e => by cases e; rfl) fun v hv hc ha => ?_
   refine (wnum_c (m := 8) hv (by omega) (by show List.length (l ++ nb 8 id)  ≤ _; simp only [List.length_append, nb_len]; omega) (HI.out.2.1.1) (HI.out.2.1.2)).mono ?_
   rintro e u' ⟨rfl, v', h1, h2⟩
   exact ⟨rfl, v', h1, h2⟩
  ·intro s G u hC hk hw
   rw [show (execOp _ _).run Tryz.prog u = .ok (.enter 19 #[.pointer (some ⟨pb, 0, none⟩), .int .i64 8, .int .i64 b]) u by kernel_rfl]
   refine CW.call hC hk rfl (fun d e => by cases e; rfl) fun v hv hc ha => ?_
   refine (wnum_c (m := 8) hv (by omega) (by show List.length (l ++ nb 8 id ++ nb 8 a)  ≤ _; simp only [List.length_append, nb_len]; omega) (HI.out.2.2.1.1) (HI.out.2.2.1.2)).mono ?_
   rintro e u' ⟨rfl, v', h1, h2⟩
   exact ⟨rfl, v', h1, h2⟩
  ·intro s G u hC hk hw
   rw [show (execOp _ _).run Tryz.prog u = .ok (.enter 20 #[.pointer (some ⟨pb, 0, none⟩), G 16]) u by kernel_rfl]
   refine CW.call hC hk rfl (fun d e => by cases e; rfl) fun v hv hc ha => ?_
   obtain ⟨g, eg, hg, og⟩ := ha 0 _ rfl (hw 1 0 16 rfl (by kernel_rfl))
   rw [show G 16 = _ from eg]
   refine (wv_c (n := 2) (c := 2) hv (sl2 hg) (fun _ => offs_of og (by omega)) (cin_c2 HI.out.2.2.2.1 HI.out.2.2.2.2.1 HI.out.2.2.2.2.2.1 HI.out.2.2.2.2.2.2.1) (by show List.length (l ++ nb 8 id ++ nb 8 a ++ nb 8 b) + 16 * 2 ≤ _; simp only [List.length_append, nb_len]; omega)).mono ?_
   rintro e u' ⟨rfl, v', h1, h2⟩
   exact ⟨rfl, v', h1, h2⟩
  ·intro s G u hC hk hw
   rw [show (execOp _ _).run Tryz.prog u = .ok (.enter 34 #[.pointer (some ⟨pb, 0, none⟩), G 20]) u by kernel_rfl]
   refine CW.call hC hk rfl (fun d e => by cases e; rfl) fun v hv hc ha => ?_
   obtain ⟨g, eg, hg, og⟩ := ha 1 _ rfl (hw 2 0 20 rfl (by kernel_rfl))
   rw [show G 20 = _ from eg]
   refine (wf_c (n := 1) (c := 1) hv (ns1 hg) (fun _ => offs_of og (by omega)) (fun _ _ => HI.out.2.2.2.2.2.2.2) (by show List.length (l ++ nb 8 id ++ nb 8 a ++ nb 8 b ++ vB (c2 ax ay tx ty) 2) + 8 * 1 ≤ _; simp only [List.length_append, nb_len, vB_len]; omega)).mono ?_
   rintro e u' ⟨rfl, v', h1, h2⟩
   exact ⟨rfl, v', h1, h2⟩
  ·intro s G u hC hk hw
   rw [show (execOp _ _).run Tryz.prog u = .ok (.value (.slice (some ⟨u.heap.size, 0, none⟩) 2 2)) (u.alloc (.cells #[.int .i64 ax, .int .i64 ay, .int .i64 tx, .int .i64 ty] 28)) by kernel_rfl]
   exact CW.make (i := 0) hC _ rfl rfl (fun i' a' h hne => by
    match i', h with
    | 0, h => exact absurd rfl hne
    | 1, h => cases h; exact Nat.ne_of_beq_eq_false rfl
    | n + 2, h => simp at h)
  ·intro s G u hC hk hw
   rw [show (execOp _ _).run Tryz.prog u = .ok (.value (.slice (some ⟨u.heap.size, 0, none⟩) 1 1)) (u.alloc (.cells #[.int .i64 ln] 26)) by kernel_rfl]
   exact CW.make (i := 1) hC _ rfl rfl (fun i' a' h hne => by
    match i', h with
    | 0, h => cases h; exact Nat.ne_of_beq_eq_false rfl
    | 1, h => exact absurd rfl hne
    | n + 2, h => simp at h)
 case q2c =>
  intro G u2 hu
  obtain ⟨v2, hv2, hc2, _⟩ := hu
  have HV2 : Hid (Wv u2 pb v2 (l ++ nb 8 id ++ nb 8 a ++ nb 8 b ++ vB (c2 ax ay tx ty) 2 ++ fB (fun _ => ln) 1)) := hv2
  have HC2 := hid hc2
  clear hv2 hc2 e0 e1 e2 e3 e4 e5 e6 e7
  simp only [RF.AG, Act.put, List.setIfInBounds_toArray, List.set_cons_succ, List.set_cons_zero]
  go_wp2_with fail
  refine cvoid_end rfl rfl ⟨rfl, v2, ?_, ((Wc.rfl_ _ _ _).made KW.out).then_ HC2.out⟩
  have h := HV2.out
  unfold jtB
  rw [vB2, fB1] at h
  simpa only [List.append_assoc] using h
theorem cwjoint_c {pb : Nat} {v : Value} {l : List Nat} (x : Jt) {w : World} (hW : Wv w pb v l) (hI : JtI x) (hn : l.length + 200 ≤ 549755813888) :
  Calls Tryz.prog 52 #[.pointer (some ⟨pb, 0, none⟩), jtV x] w fun e w' => e = .returned (.tuple #[]) ∧ ∃ v', Wv w' pb v' (l ++ jtB x) ∧ Wc pb w w' v v' := by
 obtain ⟨id, a, b, ax, ay, tx, ty, ln⟩ := x
 exact cwjoint_c1 hW hI hn
theorem cwcontact_c1 {pb : Nat} {v : Value} {l : List Nat} {a b key n t : Int} {w : World} (hW : Wv w pb v l) (hI : CtI (⟨a, b, key, n, t⟩ : Ct)) (hn : l.length + 200 ≤ 549755813888) :
  Calls Tryz.prog 54 #[.pointer (some ⟨pb, 0, none⟩), .agg #[.int .i64 a, .int .i64 b, .int .i64 key, .int .i64 n, .int .i64 t]] w fun e w' => e = .returned (.tuple #[]) ∧ ∃ v', Wv w' pb v' (l ++ ctB (⟨a, b, key, n, t⟩ : Ct)) ∧ Wc pb w w' v v' := by
 have HW := hid hW
 have HI := hid hI
 obtain ⟨W, eW⟩ : ∃ W, W = w.alloc (.cells #[.int .i64 a, .int .i64 b, .int .i64 key, .int .i64 n, .int .i64 t] 105) := ⟨_, rfl⟩
 have KW : Hid (Made w.heap.size w W) := by unfold Hid; rw [eW]; exact (Made.rfl_ _ _).cells (Nat.le_refl _) _ _
 obtain ⟨g1, eg1⟩ : ∃ g, w.heap.size = g := ⟨_, rfl⟩
 have HB : Hid (Has W g1 105 #[.int .i64 a, .int .i64 b, .int .i64 key, .int .i64 n, .int .i64 t]) := by unfold Hid; rw [eW, ← eg1]; exact has_new _ _ _
 have HG : Hid (¬ OwnW pb v g1) := HW.out.off (.inr (Nat.le_of_eq eg1))
 have HW1 := hid (HW.out.kept KW.out)
 have e0 : W.cell? ⟨g1, 0, none⟩ = some (.int .i64 a) := HB.out.at_ 0
 have e1 : W.cell? ⟨g1, 1, none⟩ = some (.int .i64 b) := HB.out.at_ 1
 have e2 : W.cell? ⟨g1, 2, none⟩ = some (.int .i64 key) := HB.out.at_ 2
 have e3 : W.cell? ⟨g1, 3, none⟩ = some (.int .i64 n) := HB.out.at_ 3
 have e4 : W.cell? ⟨g1, 4, none⟩ = some (.int .i64 t) := HB.out.at_ 4
 clear hW hI
 go_enter Tryz.func54, Tryz.ntmps54
 go_upto_region 1 with fail
 rw [← eW]
 clear eW
 try rw [eg1]
 clear eg1
 refine RF.reg_flow (CW W pb v [l, l ++ nb 8 a, l ++ nb 8 a ++ nb 8 b, l ++ nb 8 a ++ nb 8 b ++ nb 8 key, l ++ nb 8 a ++ nb 8 b ++ nb 8 key ++ fB (fun i => if i = 0 then n else t) 2] [⟨16, 26, 2, #[.int .i64 n, .int .i64 t]⟩]) [[5, 8, 11, 17], [16]] [(16, 20)] [0, 1, 2, 3, 4, 6, 7, 9, 10, 12, 13, 14, 15] [(9, .pointer (some ⟨pb, 0, none⟩)), (12, .pointer (some ⟨pb, 0, none⟩)), (15, .pointer (some ⟨pb, 0, none⟩)), (21, .pointer (some ⟨pb, 0, none⟩))] 22 (by kernel_rfl) (CW.start HW1.out) (by kernel_rfl) rfl (by kernel_rfl) (by kernel_rfl) ?_
 apply Exists.intro
 refine ⟨?q3a, ?q3b, ?q3c⟩
 case q3a =>
  intro s G Ty hT f hf
  have z0 := CW.reads hf e0 HG.out
  have z1 := CW.reads hf e1 HG.out
  have z2 := CW.reads hf e2 HG.out
  have z3 := CW.reads hf e3 HG.out
  have z4 := CW.reads hf e4 HG.out
  clear hf
  simp only [RF.putF, Act.put, List.setIfInBounds_toArray, List.set_cons_succ, List.set_cons_zero]
  change wpQuiet _ _ _ _ [_, _, _, _, _, _, _, _, _, _, _, _, _] _
  repeat (go_big_quiet_step (fail))
  exact wpQuiet_nil rfl
 case q3b =>
  refine ⟨⟨?_, ?_, ?_, ?_, trivial⟩, ⟨?_, trivial⟩, trivial⟩
  ·intro s G u hC hk hw
   rw [show (execOp _ _).run Tryz.prog u = .ok (.enter 19 #[.pointer (some ⟨pb, 0, none⟩), .int .i64 8, .int .i64 a]) u by kernel_rfl]
   refine CW.call hC hk rfl (fun d e => by cases e; rfl) fun v hv hc ha => ?_
   refine (wnum_c (m := 8) hv (by omega) (by show List.length (l)  ≤ _; omega) (HI.out.1.1) (HI.out.1.2)).mono ?_
   rintro e u' ⟨rfl, v', h1, h2⟩
   exact ⟨rfl, v', h1, h2⟩
  ·intro s G u hC hk hw
   rw [show (execOp _ _).run Tryz.prog u = .ok (.enter 19 #[.pointer (some ⟨pb, 0, none⟩), .int .i64 8, .int .i64 b]) u by kernel_rfl]
   refine CW.call hC hk rfl (fun d e => by cases e; rfl) fun v hv hc ha => ?_
   refine (wnum_c (m := 8) hv (by omega) (by show List.length (l ++ nb 8 a)  ≤ _; simp only [List.length_append, nb_len]; omega) (HI.out.2.1.1) (HI.out.2.1.2)).mono ?_
   rintro e u' ⟨rfl, v', h1, h2⟩
   exact ⟨rfl, v', h1, h2⟩
  ·intro s G u hC hk hw
   rw [show (execOp _ _).run Tryz.prog u = .ok (.enter 19 #[.pointer (some ⟨pb, 0, none⟩), .int .i64 8, .int .i64 key]) u by kernel_rfl]
   refine CW.call hC hk rfl (fun d e => by cases e; rfl) fun v hv hc ha => ?_
   refine (wnum_c (m := 8) hv (by omega) (by show List.length (l ++ nb 8 a ++ nb 8 b)  ≤ _; simp only [List.length_append, nb_len]; omega) (HI.out.2.2.1.1) (HI.out.2.2.1.2)).mono ?_
   rintro e u' ⟨rfl, v', h1, h2⟩
   exact ⟨rfl, v', h1, h2⟩
  ·intro s G u hC hk hw
   rw [show (execOp _ _).run Tryz.prog u = .ok (.enter 34 #[.pointer (some ⟨pb, 0, none⟩), G 16]) u by kernel_rfl]
   refine CW.call hC hk rfl (fun d e => by cases e; rfl) fun v hv hc ha => ?_
   obtain ⟨g, eg, hg, og⟩ := ha 0 _ rfl (hw 1 0 16 rfl (by kernel_rfl))
   rw [show G 16 = _ from eg]
   refine (wf_c (n := 2) (c := 2) hv (ns2 hg) (fun _ => offs_of og (by omega)) (i64_f2 HI.out.2.2.2.1 HI.out.2.2.2.2) (by show List.length (l ++ nb 8 a ++ nb 8 b ++ nb 8 key) + 8 * 2 ≤ _; simp only [List.length_append, nb_len]; omega)).mono ?_
   rintro e u' ⟨rfl, v', h1, h2⟩
   exact ⟨rfl, v', h1, h2⟩
  ·intro s G u hC hk hw
   rw [show (execOp _ _).run Tryz.prog u = .ok (.value (.slice (some ⟨u.heap.size, 0, none⟩) 2 2)) (u.alloc (.cells #[.int .i64 n, .int .i64 t] 26)) by kernel_rfl]
   exact CW.make (i := 0) hC _ rfl rfl (fun i' a' h hne => by
    match i', h with
    | 0, h => exact absurd rfl hne
    | n + 1, h => simp at h)
 case q3c =>
  intro G u2 hu
  obtain ⟨v2, hv2, hc2, _⟩ := hu
  have HV2 : Hid (Wv u2 pb v2 (l ++ nb 8 a ++ nb 8 b ++ nb 8 key ++ fB (fun i => if i = 0 then n else t) 2)) := hv2
  have HC2 := hid hc2
  clear hv2 hc2 e0 e1 e2 e3 e4
  simp only [RF.AG, Act.put, List.setIfInBounds_toArray, List.set_cons_succ, List.set_cons_zero]
  go_wp2_with fail
  refine cvoid_end rfl rfl ⟨rfl, v2, ?_, ((Wc.rfl_ _ _ _).made KW.out).then_ HC2.out⟩
  have h := HV2.out
  unfold ctB
  rw [fB2] at h
  simpa only [List.append_assoc] using h
theorem cwcontact_c {pb : Nat} {v : Value} {l : List Nat} (x : Ct) {w : World} (hW : Wv w pb v l) (hI : CtI x) (hn : l.length + 200 ≤ 549755813888) :
  Calls Tryz.prog 54 #[.pointer (some ⟨pb, 0, none⟩), ctV x] w fun e w' => e = .returned (.tuple #[]) ∧ ∃ v', Wv w' pb v' (l ++ ctB x) ∧ Wc pb w w' v v' := by
 obtain ⟨a, b, key, n, t⟩ := x
 exact cwcontact_c1 hW hI hn
end Go.Proofs.YtgdcphmmehedoaaGreat.Fx