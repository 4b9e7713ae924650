/- CoI CoG CoH CoJ -/
import Derived.Test.YtgdcphmmehedoaaGreatCb18
set_option maxRecDepth 100000
set_option maxHeartbeats 64000000
/- Package pack once more: a reader by the state that it is in; what is read, plain. -/
namespace Go.Proofs.YtgdcphmmehedoaaGreat.Fx
open Go.ChangeShapes Go.WideShapes Go.ChangeAt Go.RowKit
set_option linter.unusedVariables false
theorem rnum2_c {pb m n c : Nat} {ao : Option Addr} {f : Nat → Nat} {w : World} (h : Re w pb ao n c f) (hf : ∀ i, f i < 256) (hm : m ≤ 8) (h0 : 0 < m) (hs : m ≤ n) :
  Calls Tryz.prog 60 #[.pointer (some ⟨pb, 0, none⟩), .int .i64 (m : Nat)] w fun e w' => e = .returned (.int .i64 (valI f m)) ∧ (∃ ao' c', (Re w' pb ao' (n - m) c' fun i => f (m + i)) ∧ ∀ b off, ao' = some ⟨b, off, none⟩ → ∃ off0, ao = some ⟨b, off0, none⟩) ∧ On1 pb w w' := by
 have hmax : max (m : Int) 0 = (m : Int) := by omega
 have hmin : min (m : Int) 8 = (m : Int) := by omega
 obtain ⟨b, off, rfl, hby⟩ := h.by_ (by omega)
 have c0 := h.c0
 have hle := h.le
 have hc := h.top
 unfold maxLen at hc
 have hlt : decide ((m : Int) > (n : Int)) = false := decide_eq_false (by omega)
 have hlt0 : decide (n < m) = false := decide_eq_false (by omega)
 have H := hid (rbad_c h)
 have HB := hid hby
 have HF := hid hf
 have HE := hid h
 have z0 := h.z0
 clear h hby hf
 go_enter Tryz.func60, Tryz.ntmps60
 go_wp2_with fail
 refine H.out.mono ?_
 rintro e w1 ⟨rfl, rfl⟩
 go_wp2_with fail
 go_loopg [5, 31] m (fun g x i wx => ∃ k : Nat, k + g = m ∧ i = .int .i64 (k : Nat) ∧ x = .int .i64 (valI f k) ∧ Hid (w = wx))
 case atStart => exact ⟨0, by omega, by first | rfl | trivial, rfl, rfl⟩
 case round =>
  obtain ⟨k, hk, rfl, rfl, HW⟩ := hrel
  have hW := HW.out
  subst hW
  obtain ⟨r, er⟩ : ∃ r, valI f k = r := ⟨_, rfl⟩
  rw [er]
  by_cases hkm : k < m
  ·have c2 := HB.out k (by omega)
   obtain ⟨x, ex⟩ : ∃ x, f k = x := ⟨_, rfl⟩
   have lx : x < 256 := by rw [← ex]; exact HF.out k
   rw [ex] at c2
   have HN : Hid (valI f (k + 1) = bits .or .i64 r (wrap64 ((x : Int) * 2 ^ (8 * k)))) := by
    unfold Hid
    show bits .or .i64 (valI f k) (wrap64 ((f k : Int) * 2 ^ (8 * k))) = _
    rw [er, ex]
   clear er ex
   go_wp2_with fail
   go_roundg (m - k - 1)
   case rel => exact ⟨k + 1, by omega, by go_num, by rw [HN.out], rfl⟩
   case measure => omega
  ·have e : k = m := by omega
   subst e
   have HR := hid er
   clear er
   go_wp2_with fail
   ·go_ret
    refine ⟨cret_i HR.out.symm, ⟨_, ⟨_, HE.out.less hs (by omega) (by unfold maxLen; omega) ?_⟩, fun b' off' e => ?_⟩, (On1.rfl_ pb w).put 0 _⟩
    ·first | exact .inl rfl | exact .inr (by omega)
    ·cases e; first | rfl | exact ⟨_, rfl⟩
   ·go_ret
    refine ⟨cret_i HR.out.symm, ⟨_, ⟨_, HE.out.less hs (by omega) (by unfold maxLen; omega) ?_⟩, fun b' off' e => ?_⟩, (On1.rfl_ pb w).put 0 _⟩
    ·first | exact .inl rfl | exact .inr (by omega)
    ·cases e; first | rfl | exact ⟨_, rfl⟩
def Rd (w : World) (pb B : Nat) (s : Rs) : Prop :=
 pb < B ∧ match s with
 | none => Rx w pb
 | some l => ∃ ao c, Re w pb ao l.length c (gl l) ∧ (0 < l.length → ∀ b off, ao = some ⟨b, off, none⟩ → b < B)
theorem Re.congr {w : World} {pb n c : Nat} {ao : Option Addr} {f g : Nat → Nat} (h : Re w pb ao n c f) (e : ∀ i, i < n → f i = g i) : Re w pb ao n c g :=
 ⟨h.c0, h.c1, h.z0, h.z1, h.by_.congr e, h.le, h.top, h.off⟩
theorem Rd.but {X : Nat → Prop} {w u : World} {pb B : Nat} {s : Rs} (h : Rd w pb B s) (k : But X w u) (hx : ∀ b, X b → B ≤ b) : Rd u pb B s := by
 have hp : ¬ X pb := fun e => by have := hx pb e; have := h.1; omega
 refine ⟨h.1, ?_⟩
 cases s with
 | none =>
  have h2 : Rx w pb := h.2
  show Rx u pb
  exact ⟨k.cell h2.c0 hp, k.cell h2.c1 hp, (k.marks _).trans h2.z0, (k.marks _).trans h2.z1⟩
 | some l =>
  obtain ⟨ao, c, h2, h3⟩ : ∃ ao c, Re w pb ao l.length c (gl l) ∧ (0 < l.length → ∀ b off, ao = some ⟨b, off, none⟩ → b < B) := h.2
  refine ⟨ao, c, ⟨k.cell h2.c0 hp, k.cell h2.c1 hp, (k.marks _).trans h2.z0, (k.marks _).trans h2.z1, fun hn => ?_, h2.le, h2.top, h2.off⟩, h3⟩
  obtain ⟨b, off, e, hc⟩ := h2.by_ hn
  exact ⟨b, off, e, fun i hi => k.cell (hc i hi) fun hb => by have := hx b hb; have := h3 hn b off e; omega⟩
theorem Rd.kept {w u : World} {pb B : Nat} {s : Rs} (h : Rd w pb B s) (k : Made w.heap.size w u) : Rd u pb B s := h.but (Made.but (X := Nil0) k) (fun _ e => e.elim)
theorem On1.but {X : Nat} {w v : World} (h : On1 X w v) : But (fun b => b = X) w v := ⟨h.os, h.tape, h.output, h.size, h.block, h.marks⟩
theorem rN_c {pb B m : Nat} {s : Rs} {w : World} (h : Rd w pb B s) (hs : RsOk s) (hm : m ≤ 8) (h0 : 0 < m) :
  Calls Tryz.prog 60 #[.pointer (some ⟨pb, 0, none⟩), .int .i64 (m : Nat)] w fun e w' => e = .returned (.int .i64 (dN m s).1) ∧ Rd w' pb B (dN m s).2 ∧ But (fun b => b = pb) w w' := by
 obtain ⟨hp, h⟩ := h
 cases s with
 | none =>
  refine (rnumx_c h hm).mono ?_
  rintro e w' ⟨rfl, h1, h2⟩
  exact ⟨rfl, ⟨hp, h1⟩, h2.but⟩
 | some l =>
  obtain ⟨ao, c, h2, h3⟩ : ∃ ao c, Re w pb ao l.length c (gl l) ∧ (0 < l.length → ∀ b off, ao = some ⟨b, off, none⟩ → b < B) := h
  rw [dN_some]
  by_cases hl : l.length < m
  ·rw [if_pos hl]
   refine (rnums_c h2 hm hl).mono ?_
   rintro e w' ⟨rfl, h1, h4⟩
   exact ⟨rfl, ⟨hp, h1⟩, h4.but⟩
  ·rw [if_neg hl]
   refine (rnum2_c h2 (gl_lt (hs l rfl)) hm h0 (by omega)).mono ?_
   rintro e w' ⟨rfl, ⟨ao', c', h1, h5⟩, h4⟩
   refine ⟨rfl, ⟨hp, ao', c', ?_, fun hn b off e => ?_⟩, h4.but⟩
   ·rw [List.length_drop]
    exact h1.congr fun i hi => (gl_drop l m i).symm
   ·obtain ⟨off0, e0⟩ := h5 b off e
    rw [List.length_drop] at hn
    exact h3 (by omega) b off0 e0
theorem rB_c {pb B : Nat} {s : Rs} {w : World} (h : Rd w pb B s) : Calls Tryz.prog 71 #[.pointer (some ⟨pb, 0, none⟩)] w fun e w' => e = .returned (.bool s.isNone) ∧ w = w' := by
 obtain ⟨hp, h⟩ := h
 cases s with
 | none => exact rbadx_c h
 | some l =>
  obtain ⟨ao, c, h2, h3⟩ : ∃ ao c, Re w pb ao l.length c (gl l) ∧ (0 < l.length → ∀ b off, ao = some ⟨b, off, none⟩ → b < B) := h
  exact rbad_c h2
def isDone (s : Rs) : Bool := match s with | none => false | some l => decide (l.length = 0)
theorem rD_c {pb B : Nat} {s : Rs} {w : World} (h : Rd w pb B s) : Calls Tryz.prog 31 #[.pointer (some ⟨pb, 0, none⟩)] w fun e w' => e = .returned (.bool (isDone s)) ∧ w = w' := by
 obtain ⟨hp, h⟩ := h
 cases s with
 | none => exact rdonex_c h
 | some l =>
  obtain ⟨ao, c, h2, h3⟩ : ∃ ao c, Re w pb ao l.length c (gl l) ∧ (0 < l.length → ∀ b off, ao = some ⟨b, off, none⟩ → b < B) := h
  exact rdone_c h2
theorem rF_c {pb B : Nat} {s : Rs} {w : World} (h : Rd w pb B s) (hs : RsOk s) :
  Calls Tryz.prog 73 #[.pointer (some ⟨pb, 0, none⟩)] w fun e w' => e = .returned (.int .i64 (dN 8 s).1) ∧ Rd w' pb B (dN 8 s).2 ∧ But (fun b => b = pb) w w' := by
 have H := hid (rN_c (m := 8) h hs (by omega) (by omega))
 clear h hs
 go_enter Tryz.func73, Tryz.ntmps73
 go_wp2_with fail
 refine H.out.mono ?_
 rintro e w1 ⟨rfl, h1, h2⟩
 have H1 := hid h1; have H2 := hid h2
 clear h1 h2
 go_wp2_with fail
 go_ret
 exact ⟨rfl, H1.out, H2.out⟩
def dV (s : Rs) : (Int × Int) × Rs := (if (dN 8 (dN 8 s).2).2.isNone then (0, 0) else ((dN 8 s).1, (dN 8 (dN 8 s).2).1), (dN 8 (dN 8 s).2).2)
abbrev paV (p : Int × Int) : Value := .agg #[.int .i64 p.1, .int .i64 p.2]
theorem But.via {X : Nat → Prop} {a b c : World} (h : But X a b) (k : Made b.heap.size b c) : But X a c := h.then_ (Made.but k)
theorem rV_c {pb B : Nat} {s : Rs} {w : World} (h : Rd w pb B s) (hs : RsOk s) (hB : B ≤ w.heap.size) :
  Calls Tryz.prog 61 #[.pointer (some ⟨pb, 0, none⟩)] w fun e w' => e = .returned (paV (dV s).1) ∧ Rd w' pb B (dV s).2 ∧ But (fun b => b = pb) w w' := by
 have HP := hid h.1
 have HB := hid hB
 have KA : Hid (Made w.heap.size w (w.alloc (.cells #[.int .i64 0, .int .i64 0] 28))) := (Made.rfl_ _ _).cells (Nat.le_refl _) _ _
 have H1 := hid (rF_c (h.kept KA.out) hs)
 have HS1 := hid (dN_ok (m := 8) hs)
 clear h hs hB
 obtain ⟨g0, eg0⟩ : ∃ g, w.heap.size = g := ⟨_, rfl⟩
 obtain ⟨x, ex⟩ : ∃ x, (dN 8 s).1 = x := ⟨_, rfl⟩
 obtain ⟨s1, es1⟩ : ∃ z, (dN 8 s).2 = z := ⟨_, rfl⟩
 obtain ⟨y, ey⟩ : ∃ x, (dN 8 s1).1 = x := ⟨_, rfl⟩
 obtain ⟨s2, es2⟩ : ∃ z, (dN 8 s1).2 = z := ⟨_, rfl⟩
 have HV : Hid (dV s = (if s2.isNone then (0, 0) else (x, y), s2)) := by unfold Hid dV; rw [es1, es2, ex, ey]
 have HH0 : Hid (Has (w.alloc (.cells #[.int .i64 0, .int .i64 0] 28)) g0 28 #[.int .i64 0, .int .i64 0]) := by unfold Hid; rw [← eg0]; exact has_new _ _ _
 rw [es1] at HS1
 rw [ex, es1] at H1
 have EX := hid ex; have ES1 := hid es1; have EY := hid ey; have ES2 := hid es2
 clear ex es1 ey es2
 have HG0 := hid eg0
 obtain ⟨W0, eW0⟩ : ∃ W, W = w.alloc (.cells #[.int .i64 0, .int .i64 0] 28) := ⟨_, rfl⟩
 rw [← eW0] at KA H1 HH0
 have hpg : ¬ g0 = pb := fun e => by have := HP.out; have := HB.out; omega
 go_enter Tryz.func61, Tryz.ntmps61
 go_upto_region 1 with fail
 rw [← eW0]
 clear eW0
 try rw [eg0]
 clear eg0
 go_wp2_with fail
 refine H1.out.mono ?_
 rintro e w1 ⟨rfl, h1, k1⟩
 have H2 := hid (rF_c h1 HS1.out)
 rw [EY.out, ES2.out] at H2
 have HH1 := hid (HH0.out.but k1 hpg)
 have K1 := hid ((Made.but KA.out).then_ k1)
 clear h1 k1
 go_wp2_with fail
 refine H2.out.mono ?_
 rintro e w2 ⟨rfl, h2, k2⟩
 have HH2 := hid (HH1.out.but k2 hpg)
 have K2 := hid (K1.out.then_ k2)
 have R2 := hid h2
 clear h2 k2
 obtain ⟨g2, eg2⟩ : ∃ g, w2.heap.size = g := ⟨_, rfl⟩
 have HG2 := hid eg2
 obtain ⟨W, eW⟩ : ∃ W, W = w2.alloc (.cells #[.int .i64 x, .int .i64 y] 28) := ⟨_, rfl⟩
 have KW : Hid (Made w2.heap.size w2 W) := by unfold Hid; rw [eW]; exact (Made.rfl_ _ _).cells (Nat.le_refl _) _ _
 have HHW : Hid (Has W g2 28 #[.int .i64 x, .int .i64 y]) := by unfold Hid; rw [eW, ← eg2]; exact has_new _ _ _
 have HH3 : Hid (Has W g0 28 #[.int .i64 0, .int .i64 0]) := HH2.out.stays KW.out HH2.out.here
 have R3 := hid (R2.out.kept KW.out)
 have K3 := hid (K2.out.via KW.out)
 have b0 : W.cell? ⟨g2, 0, none⟩ = some (.int .i64 x) := HHW.out.at_ 0
 have b1 : W.cell? ⟨g2, 1, none⟩ = some (.int .i64 y) := HHW.out.at_ 1
 have c0 : W.cell? ⟨g0, 0, none⟩ = some (.int .i64 0) := HH3.out.at_ 0
 have c1 : W.cell? ⟨g0, 1, none⟩ = some (.int .i64 0) := HH3.out.at_ 1
 have z0 := HH3.out.free 0
 have z1 := HH3.out.free 1
 have l0 := HH3.out.here
 have H3 := hid (rB_c R3.out)
 go_upto_region 2 with fail
 rw [← eW]
 clear eW
 try rw [eg2]
 clear eg2
 cases s2 with
 | none =>
  go_wp2_with fail
  refine H3.out.mono ?_
  rintro e w4 ⟨rfl, rfl⟩
  go_wp2_with fail
  have r0 : ((W.setCell ⟨g0, 0, none⟩ (.int .i64 0)).setCell ⟨g0, 1, none⟩ (.int .i64 0)).cell? ⟨g0, 0, none⟩ = some (.int .i64 0) := by go_simp
  have r1 : ((W.setCell ⟨g0, 0, none⟩ (.int .i64 0)).setCell ⟨g0, 1, none⟩ (.int .i64 0)).cell? ⟨g0, 1, none⟩ = some (.int .i64 0) := by go_simp
  refine bodyPost_ret (v := paV (0, 0)) (by simp [results, Tryz.results61, go_sem, r0, r1]) rfl ⟨by rw [HV.out]; rfl, ?_, ?_⟩
  ·rw [HV.out]
   refine R3.out.but (((But.rfl_ (fun b => b = g0) W).put (p := ⟨g0, 0, none⟩) (.inl rfl) _).put (p := ⟨g0, 1, none⟩) (.inl rfl) _) (fun b e => by have := HB.out; have := HG0.out; omega)
  ·exact (K3.out.put (p := ⟨g0, 0, none⟩) (.inr (Nat.le_of_eq HG0.out)) _).put (p := ⟨g0, 1, none⟩) (.inr (Nat.le_of_eq HG0.out)) _
 | some l2 =>
  go_wp2_with fail
  refine H3.out.mono ?_
  rintro e w4 ⟨rfl, rfl⟩
  go_wp2_with fail
  have r0 : ((W.setCell ⟨g0, 0, none⟩ (.int .i64 x)).setCell ⟨g0, 1, none⟩ (.int .i64 y)).cell? ⟨g0, 0, none⟩ = some (.int .i64 x) := by go_simp
  have r1 : ((W.setCell ⟨g0, 0, none⟩ (.int .i64 x)).setCell ⟨g0, 1, none⟩ (.int .i64 y)).cell? ⟨g0, 1, none⟩ = some (.int .i64 y) := by go_simp
  refine bodyPost_ret (v := paV (x, y)) (by simp [results, Tryz.results61, go_sem, r0, r1]) rfl ⟨by rw [HV.out]; rfl, ?_, ?_⟩
  ·rw [HV.out]
   refine R3.out.but (((But.rfl_ (fun b => b = g0) W).put (p := ⟨g0, 0, none⟩) (.inl rfl) _).put (p := ⟨g0, 1, none⟩) (.inl rfl) _) (fun b e => by have := HB.out; have := HG0.out; omega)
  ·exact (K3.out.put (p := ⟨g0, 0, none⟩) (.inr (Nat.le_of_eq HG0.out)) _).put (p := ⟨g0, 1, none⟩) (.inr (Nat.le_of_eq HG0.out)) _
end Go.Proofs.YtgdcphmmehedoaaGreat.Fx
/- Package codec: a batch is written. -/
namespace Go.Proofs.YtgdcphmmehedoaaGreat.Fx
open Go.ChangeShapes Go.WideShapes Go.ChangeAt Go.RowKit
set_option linter.unusedVariables false
theorem orB_len (o : Or) : (orB o).length ≤ 16 * o.n + 100 := by
 have h1 : (shB o.k o.r o.n o.f).length ≤ 16 * o.n + 9 := by
  unfold shB
  split
  ·simp only [List.length_append, nb_len]; omega
  ·split
   ·simp only [List.length_append, nb_len, vB_len]; omega
   ·simp only [List.length_append, nb_len, List.length_nil]; omega
 unfold orB
 repeat' split
 all_goals (simp only [List.length_append, nb_len, List.length_nil]; omega)
def batB (L : List Or) : List Nat := nb 2 (L.length : Nat) ++ L.flatMap orB
theorem bat_len : ∀ (L : List Or), (∀ o ∈ L, o.n ≤ 255) → (L.flatMap orB).length ≤ 4180 * L.length
 | [], _ => Nat.le_refl _
 | o :: L, h => by
  have h1 := bat_len L (fun x hx => h x (List.mem_cons_of_mem _ hx))
  have h2 := orB_len o
  have h3 := h o (List.mem_cons_self ..)
  rw [List.flatMap_cons, List.length_append, List.length_cons]
  omega
def OrsLow (pb : Nat) (w : World) (ao : Option Addr) (L : List Or) : Prop := (∀ u, Made pb w u → OrsAt u ao L) ∧ ∀ o ∈ L, 0 < o.n → ∀ b off s, o.ao = some ⟨b, off, s⟩ → b < pb
theorem OrsAt.low {w : World} {ao : Option Addr} {L : List Or} (h : OrsAt w ao L) : OrsLow w.heap.size w ao L := by
 refine ⟨fun u k => h.kept k, fun o ho hn b off s e => ?_⟩
 obtain ⟨b', off', e', hp⟩ := (h.2 o ho).2.2 hn
 rw [e] at e'
 cases e'
 exact World.block_lt_of_cell? _ _ (hp 0 hn).1
theorem wwrite_c {pb n c m : Nat} {v : Value} {L : List Or} {ao : Option Addr} {w : World} (hW : Wv w pb v []) (hL : OrsLow pb w ao L) (hn : L.length = n) (hm : m ≤ 8) (h64 : n ≤ 64) (h255 : ∀ o ∈ L, o.n ≤ 255) :
  Calls Tryz.prog 25 #[.pointer (some ⟨pb, 0, none⟩), .int .i64 (m : Nat), .slice ao n c, .func (.func 26) #[] #[]] w fun e w' => e = .returned (.tuple #[]) ∧ ∃ v', Wv w' pb v' (nb m (n : Nat) ++ L.flatMap orB) ∧ Wc pb w w' v v' := by
 have HW := hid hW
 have HN := hid hn
 have HL := hid hL
 have H5 := hid h255
 have HC := hid (wnum_c (m := m) (X := (n : Nat)) hW hm (by simp) (by omega) (by omega))
 clear hW hn hL h255
 go_enter Tryz.func25, Tryz.ntmps25
 go_wp2_with fail
 refine HC.out.mono ?_
 rintro e w1 ⟨rfl, v1, hW1, hC1⟩
 have HW1 := hid hW1
 have HC1 := hid hC1
 clear hW1 hC1
 go_wp2_with fail
 go_loopg [19] n (fun gg s19 wx => ∃ (k : Nat) (v2 : Value), k + gg = n ∧ s19 = .int .i64 (k : Nat) ∧ Hid (Wv wx pb v2 (nb m (n : Nat) ++ (L.take k).flatMap orB)) ∧ Hid (Wc pb w wx v v2))
 case atStart => exact ⟨0, v1, by omega, by first | rfl | trivial, by rw [show (L.take 0).flatMap orB = [] from rfl, List.append_nil]; exact HW1.out, HC1.out⟩
 case round =>
  obtain ⟨k, v2, hk, rfl, HW2, HC2⟩ := hrel
  by_cases hlt : k < n
  ·obtain ⟨a, ea⟩ : ∃ a, L[k]? = some a := ⟨_, List.getElem?_eq_getElem (by rw [HN.out]; omega)⟩
   have hor := HL.out.1 wr (Wc.low HW.out HC2.out)
   obtain ⟨b, off, rfl, hbl, hLB⟩ := hor.1 (by rw [HN.out]; omega)
   have hmem := List.mem_of_getElem? ea
   obtain ⟨hi, _, hs⟩ := hor.2 a hmem
   have HLow := hid (HL.out.2 a hmem)
   have HA5 := hid (H5.out a hmem)
   have HA := hid ea
   have hcells := (hLB k _ ea).o15
   have HI := hid hi
   have HS := hid hs
   clear ea hLB hor hmem hi hs
   obtain ⟨x0, x1, x2, x3, x4, x5, x6, x7, x8, x9, x10, x11, x12, x13, x14, x15, x16, x17⟩ := a
   obtain ⟨a0, a1, a2, a3, a4, a5, a6, a7, a8, a9, a10, a11, a12, a13, a14⟩ := hcells
   simp only [] at a0 a1 a2 a3 a4 a5 a6 a7 a8 a9 a10 a11 a12 a13 a14
   obtain ⟨W, eW⟩ : ∃ W, W = wr.alloc (.cells #[.int .i64 x0, .int .i64 x1, .int .i64 x2, .int .i64 x3, .int .i64 x4, .int .i64 x5, .int .i64 x6, .int .i64 x7, .int .i64 x8, .int .i64 x9, .int .i64 x10, .int .i64 x11, .int .i64 x12, .int .i64 x13, .slice x14 x15 x16] 49) := ⟨_, rfl⟩
   have KW : Hid (Made wr.heap.size wr W) := by unfold Hid; rw [eW]; exact (Made.rfl_ _ _).cells (Nat.le_refl _) _ _
   obtain ⟨g1, eg1⟩ : ∃ g, wr.heap.size = g := ⟨_, rfl⟩
   have HB : Hid (Has W g1 49 #[.int .i64 x0, .int .i64 x1, .int .i64 x2, .int .i64 x3, .int .i64 x4, .int .i64 x5, .int .i64 x6, .int .i64 x7, .int .i64 x8, .int .i64 x9, .int .i64 x10, .int .i64 x11, .int .i64 x12, .int .i64 x13, .slice x14 x15 x16]) := by unfold Hid; rw [eW, ← eg1]; exact has_new _ _ _
   have b0 : W.cell? ⟨g1, 0, none⟩ = some (.int .i64 x0) := HB.out.at_ 0
   have b1 : W.cell? ⟨g1, 1, none⟩ = some (.int .i64 x1) := HB.out.at_ 1
   have b2 : W.cell? ⟨g1, 2, none⟩ = some (.int .i64 x2) := HB.out.at_ 2
   have b3 : W.cell? ⟨g1, 3, none⟩ = some (.int .i64 x3) := HB.out.at_ 3
   have b4 : W.cell? ⟨g1, 4, none⟩ = some (.int .i64 x4) := HB.out.at_ 4
   have b5 : W.cell? ⟨g1, 5, none⟩ = some (.int .i64 x5) := HB.out.at_ 5
   have b6 : W.cell? ⟨g1, 6, none⟩ = some (.int .i64 x6) := HB.out.at_ 6
   have b7 : W.cell? ⟨g1, 7, none⟩ = some (.int .i64 x7) := HB.out.at_ 7
   have b8 : W.cell? ⟨g1, 8, none⟩ = some (.int .i64 x8) := HB.out.at_ 8
   have b9 : W.cell? ⟨g1, 9, none⟩ = some (.int .i64 x9) := HB.out.at_ 9
   have b10 : W.cell? ⟨g1, 10, none⟩ = some (.int .i64 x10) := HB.out.at_ 10
   have b11 : W.cell? ⟨g1, 11, none⟩ = some (.int .i64 x11) := HB.out.at_ 11
   have b12 : W.cell? ⟨g1, 12, none⟩ = some (.int .i64 x12) := HB.out.at_ 12
   have b13 : W.cell? ⟨g1, 13, none⟩ = some (.int .i64 x13) := HB.out.at_ 13
   have b14 : W.cell? ⟨g1, 14, none⟩ = some (.slice x14 x15 x16) := HB.out.at_ 14
   have hll : (nb m (n : Nat) ++ (L.take k).flatMap orB).length ≤ 8 + 4180 * 64 := by
    rw [List.length_append, nb_len]
    have h := bat_len (L.take k) (fun o ho => H5.out o (List.mem_of_mem_take ho))
    have h2 : (L.take k).length ≤ 64 := by rw [List.length_take]; omega
    omega
   have HCC := hid (worder_c (⟨x0, x1, x2, x3, x4, x5, x6, x7, x8, x9, x10, x11, x12, x13, x14, x15, x16, x17⟩ : Or) (HW2.out.kept KW.out) HI.out (Sl.kept HS.out KW.out) (fun hn b off s e => HW2.out.off (.inl (HLow.out hn b off s e))) (by have h := HA5.out; simp only [] at h ⊢; omega))
   clear hll
   go_upto_region 4 with fail
   rw [← eW]
   clear eW
   try rw [eg1]
   clear eg1
   go_wp2_with fail
   refine HCC.out.mono ?_
   rintro e w' ⟨rfl, v3, hW3, hC3⟩
   have HW3 : Hid (Wv w' pb v3 (nb m (n : Nat) ++ (L.take (k + 1)).flatMap orB)) := by
    unfold Hid
    have e1 : L.take (k + 1) = L.take k ++ [(⟨x0, x1, x2, x3, x4, x5, x6, x7, x8, x9, x10, x11, x12, x13, x14, x15, x16, x17⟩ : Or)] := by rw [List.take_add_one, HA.out]; rfl
    rw [e1, List.flatMap_append, ← List.append_assoc]
    simpa using hW3
   have HC3 := hid ((HC2.out.made KW.out).then_ hC3)
   clear hW3 hC3
   go_wp2_with fail
   go_roundg (n - (k + 1))
   case measure => omega
   case rel => exact ⟨k + 1, v3, by omega, by go_num, HW3.out, HC3.out⟩
  ·have e : k = n := by omega
   go_wp2_with fail
   refine cvoid_end rfl rfl ⟨rfl, v2, ?_, HC2.out⟩
   have h := HW2.out
   rw [List.take_of_length_le (by rw [HN.out]; omega)] at h
   exact h
theorem cbatch_c {n c : Nat} {L : List Or} {ao : Option Addr} {w : World} (hL : OrsAt w ao L) (hn : L.length = n) (h64 : n ≤ 64) (h255 : ∀ o ∈ L, o.n ≤ 255) :
  Calls Tryz.prog 9 #[.slice ao n c] w fun e w' => ∃ ao' m c', e = .returned (.slice ao' m c') ∧ (batB L).length = m ∧ m ≤ 300000 ∧ m ≤ c' ∧ OB w' w.heap.size (.slice ao' m c') m (gl (batB L)) ∧ Made w.heap.size w w' := by
 have HW := hid (Wv.new w 80)
 have HK : Hid (Made w.heap.size w (w.alloc (.cells #[Value.slice none 0 0] 80))) := (Made.rfl_ _ _).cells (Nat.le_refl _) _ _
 have HL := hid hL.low
 have HN := hid hn
 have H5 := hid h255
 have HC := hid (wwrite_c (m := 2) (c := c) (L := L) HW.out ⟨fun u k => HL.out.1 u (HK.out.then_ k), HL.out.2⟩ hn (by omega) h64 h255)
 clear hL hn h255
 go_enter Tryz.func9, Tryz.ntmps9
 go_wp2_with fail
 refine HC.out.mono ?_
 rintro e w1 ⟨rfl, v1, hW1, hC1⟩
 have hlen : (batB L).length ≤ 300000 := by
  unfold batB
  rw [List.length_append, nb_len]
  have := bat_len L H5.out
  rw [HN.out] at this
  omega
 have HW1 : Hid (Wv w1 w.heap.size v1 (batB L)) := by
  unfold Hid batB
  rw [HN.out]
  exact hW1
 have HK1 := hid (HK.out.then_ (Wc.low HW.out hC1))
 clear hW1 hC1
 go_wp2_with fail
 refine (wbytes_c HW1.out (by omega)).mono ?_
 rintro e w2 ⟨ao', c', rfl, hc', hO, hM⟩
 have HO := hid hO
 have HM := hid (HK1.out.then_ (hM.low HK1.out.1.size))
 have HLe := hid HK1.out.1.size
 clear hO hM
 go_wp2_with fail
 go_ret
 exact ⟨ao', _, c', rfl, rfl, hlen, hc', HO.out.low HLe.out, HM.out⟩
end Go.Proofs.YtgdcphmmehedoaaGreat.Fx
/- Layer 15, plain: what is read of a batch, and that it is what was written. -/
namespace Go.Proofs.YtgdcphmmehedoaaGreat.Fx
open Go.ChangeShapes Go.WideShapes Go.ChangeAt Go.RowKit
set_option linter.unusedVariables false
def dRead {α : Type} (one : Rs → α × Rs) : Nat → Rs → List α × Rs
 | 0, s => ([], s)
 | n + 1, s => if s.isNone then ([], s) else ((one s).1 :: (dRead one n (one s).2).1, (dRead one n (one s).2).2)
theorem dRead_none {α : Type} (one : Rs → α × Rs) : ∀ n, dRead one n none = ([], none)
 | 0 => rfl
 | n + 1 => rfl
theorem dRead_some {α : Type} (one : Rs → α × Rs) (n : Nat) (l : List Nat) : dRead one (n + 1) (some l) = ((one (some l)).1 :: (dRead one n (one (some l)).2).1, (dRead one n (one (some l)).2).2) := rfl
theorem dV_ok {s : Rs} (h : RsOk s) : RsOk (dV s).2 := dN_ok (dN_ok h)
theorem dV_i {s : Rs} (h : RsOk s) : I64 (dV s).1.1 ∧ I64 (dV s).1.2 := by
 unfold dV
 simp only []
 split
 ·exact ⟨by show I64 0; unfold I64; omega, by show I64 0; unfold I64; omega⟩
 ·exact ⟨dN_i h (by omega), dN_i (dN_ok h) (by omega)⟩
theorem dRead_ok {α : Type} {one : Rs → α × Rs} (h1 : ∀ s, RsOk s → RsOk (one s).2) : ∀ n s, RsOk s → RsOk (dRead one n s).2
 | 0, s, h => h
 | n + 1, none, h => by rw [dRead_none]; exact h
 | n + 1, some l, h => by rw [dRead_some]; exact dRead_ok h1 n _ (h1 _ h)
theorem dRead_len {α : Type} (one : Rs → α × Rs) : ∀ n s, (dRead one n s).1.length ≤ n
 | 0, s => Nat.le_refl _
 | n + 1, none => by rw [dRead_none]; exact Nat.zero_le _
 | n + 1, some l => by rw [dRead_some, List.length_cons]; exact Nat.succ_le_succ (dRead_len one n _)
def gP (l : List (Int × Int)) : Cs := fun i => l.getD i (0, 0)
theorem gP_i {l : List (Int × Int)} (h : ∀ p ∈ l, I64 p.1 ∧ I64 p.2) : Cin (gP l) l.length := fun i hi => by
 unfold gP
 rw [List.getD_eq_getElem?_getD, List.getElem?_eq_getElem hi]
 exact h _ (List.getElem_mem hi)
def vBl (l : List (Int × Int)) : List Nat := l.flatMap fun p => nb 8 p.1 ++ nb 8 p.2
structure ShD where
 k : Int
 r : Int
 p : List (Int × Int)
def dS (s : Rs) : ShD × Rs :=
 if (dN 1 s).1 = 1 then (⟨1, (dN 8 (dN 1 s).2).1, []⟩, (dN 8 (dN 1 s).2).2)
 else if (dN 1 s).1 = 2 then (⟨2, 0, (dRead dV (dN 1 (dN 1 s).2).1.toNat (dN 1 (dN 1 s).2).2).1⟩, (dRead dV (dN 1 (dN 1 s).2).1.toNat (dN 1 (dN 1 s).2).2).2)
 else (⟨(dN 1 s).1, 0, []⟩, (dN 1 s).2)
def dO1 (s : Rs) : Or × Rs :=
 let p := dV s; let v := dV p.2; let a := dN 8 v.2; let w := dN 8 a.2; let d := dN 8 w.2; let h := dS d.2
 (⟨1, 0, 0, 0, p.1.1, p.1.2, v.1.1, v.1.2, a.1, w.1, d.1, 0, h.1.k, h.1.r, none, h.1.p.length, 0, gP h.1.p⟩, h.2)
def dO2 (k : Int) (s : Rs) : Or × Rs := ({ Or.kind k with id := (dN 8 s).1 }, (dN 8 s).2)
def dO3 (s : Rs) : Or × Rs :=
 let a := dN 8 s; let b := dN 8 a.2; let p := dV b.2; let v := dV p.2; let l := dN 8 v.2
 ({ Or.kind 3 with a := a.1, b := b.1, x := p.1.1, y := p.1.2, vx := v.1.1, vy := v.1.2, ln := l.1 }, l.2)
def dO5 (s : Rs) : Or × Rs :=
 let i := dN 8 s; let v := dV i.2; let w := dN 8 v.2
 ({ Or.kind 5 with id := i.1, vx := v.1.1, vy := v.1.2, sp := w.1 }, w.2)
def dO6 (s : Rs) : Or × Rs := ({ Or.kind 6 with vx := (dV s).1.1, vy := (dV s).1.2 }, (dV s).2)
def dO (s : Rs) : Or × Rs :=
 if (dN 1 s).1 = 1 then dO1 (dN 1 s).2
 else if (dN 1 s).1 = 2 ∨ (dN 1 s).1 = 4 then dO2 (dN 1 s).1 (dN 1 s).2
 else if (dN 1 s).1 = 3 then dO3 (dN 1 s).2
 else if (dN 1 s).1 = 5 then dO5 (dN 1 s).2
 else if (dN 1 s).1 = 6 then dO6 (dN 1 s).2
 else (Or.kind (dN 1 s).1, (dN 1 s).2)
theorem dS_ok {s : Rs} (h : RsOk s) : RsOk (dS s).2 := by
 unfold dS
 split
 ·exact dN_ok (dN_ok h)
 ·split
  ·exact dRead_ok (fun _ => dV_ok) _ _ (dN_ok (dN_ok h))
  ·exact dN_ok h
theorem dO_ok {s : Rs} (h : RsOk s) : RsOk (dO s).2 := by
 have h1 : RsOk (dN 1 s).2 := dN_ok h
 unfold dO
 split
 ·exact dS_ok (dN_ok (dN_ok (dN_ok (dV_ok (dV_ok h1)))))
 ·split
  ·exact dN_ok h1
  ·split
   ·exact dN_ok (dV_ok (dV_ok (dN_ok (dN_ok h1))))
   ·split
    ·exact dN_ok (dV_ok (dN_ok h1))
    ·split
     ·exact dV_ok h1
     ·exact h1
theorem dV_of {x y : Int} (hx : I64 x) (hy : I64 y) (l : List Nat) : dV (some (nb 8 x ++ (nb 8 y ++ l))) = ((x, y), some l) := by
 unfold dV
 rw [dN_nb8 x hx, dN_nb8 y hy]
 rfl
theorem dRead_of {α β : Type} {one : Rs → β × Rs} {enc : α → List Nat} (g : α → β) : ∀ (ds : List α) (l : List Nat), (∀ d ∈ ds, ∀ l, one (some (enc d ++ l)) = (g d, some l)) → dRead one ds.length (some (ds.flatMap enc ++ l)) = (ds.map g, some l)
 | [], l, _ => rfl
 | d :: ds, l, h => by
  rw [List.length_cons, List.flatMap_cons, List.append_assoc, dRead_some, h d (List.mem_cons_self ..), dRead_of g ds l (fun x hx => h x (List.mem_cons_of_mem _ hx))]
  rfl
def ptsL (n : Nat) (f : Cs) : List (Int × Int) := (List.range n).map f
theorem ptsL_len (n : Nat) (f : Cs) : (ptsL n f).length = n := by simp [ptsL]
theorem gP_ptsL (n : Nat) (f : Cs) (i : Nat) (h : i < n) : gP (ptsL n f) i = f i := by
 unfold gP ptsL
 simp [List.getD_eq_getElem?_getD, h]
theorem vB_ptsL (n : Nat) (f : Cs) : vB f n = (ptsL n f).flatMap fun p => nb 8 p.1 ++ nb 8 p.2 := by
 unfold vB ptsL
 rw [List.flatMap_map]
theorem dS_of {k r : Int} {n : Nat} {f : Cs} (hP : RightP k r n f) (hr : I64 r) (hf : Cin f n) (l : List Nat) : dS (some (shB k r n f ++ l)) = (⟨k, r, ptsL n f⟩, some l) := by
 rcases hP with ⟨rfl, rfl, _, _⟩ | ⟨rfl, rfl, h3, h8, _, _⟩
 ·have e : shB 1 r 0 f ++ l = nb 1 1 ++ (nb 8 r ++ l) := by unfold shB; rw [if_pos rfl, List.append_assoc]
  rw [e]
  unfold dS
  rw [dN_nb 1 (by omega) 1 (by omega) (by omega), if_pos rfl, dN_nb8 r hr]
  rfl
 ·have e : shB 2 0 n f ++ l = nb 1 2 ++ (nb 1 (n : Nat) ++ ((ptsL n f).flatMap (fun p => nb 8 p.1 ++ nb 8 p.2) ++ l)) := by
   unfold shB
   rw [if_neg (show ¬ (2 : Int) = 1 by decide), if_pos rfl, vB_ptsL, List.append_assoc, List.append_assoc]
  rw [e]
  unfold dS
  rw [dN_nb 1 (by omega) 2 (by omega) (by omega), if_neg (show ¬ (2 : Int) = 1 by decide), if_pos rfl, dN_nb 1 (by omega) (n : Nat) (by omega) (by omega)]
  have h := dRead_of (one := dV) (enc := fun p : Int × Int => nb 8 p.1 ++ nb 8 p.2) id (ptsL n f) l (fun d hd l => by
   obtain ⟨i, hi, rfl⟩ := List.mem_map.1 hd
   have := hf i (List.mem_range.1 hi)
   rw [List.append_assoc]
   exact dV_of this.1 this.2 l)
  rw [ptsL_len, List.map_id] at h
  simp only [Int.toNat_natCast]
  rw [h]
def nrm (o : Or) : Or := { o with ao := none, c := 0, f := gP (ptsL o.n o.f) }
theorem nrm_eq (o : Or) : EqO o (nrm o) := ⟨rfl, rfl, rfl, rfl, ⟨rfl, rfl⟩, ⟨rfl, rfl⟩, rfl, rfl, rfl, rfl, rfl, rfl, rfl, fun i hi => (gP_ptsL _ _ i hi).symm⟩
theorem dO_of {o : Or} (hP : OrderP o) (hI : OrI o) (l : List Nat) : dO (some (orB o ++ l)) = (nrm o, some l) := by
 obtain ⟨kd, id, a, b, x, y, vx, vy, an, sp, de, ln, k, r, ao, n, c, f⟩ := o
 have ie := hI.id; have ia := hI.a; have ib := hI.b; have ix := hI.x; have iy := hI.y; have ivx := hI.vx; have ivy := hI.vy; have ian := hI.an; have isp := hI.sp; have ide := hI.de; have iln := hI.ln; have ir := hI.r; have iff_ := hI.f
 clear hI
 unfold OrderP at hP
 simp only [] at hP ie ia ib ix iy ivx ivy ian isp ide iln ir iff_
 rcases hP with ⟨rfl, rfl, rfl, rfl, rfl, hB⟩ | ⟨hk, ⟨rfl, rfl, rfl, rfl, rfl⟩, h1, rfl, rfl, ⟨rfl, rfl⟩, ⟨rfl, rfl⟩, rfl, rfl⟩ | ⟨rfl, ⟨rfl, rfl, rfl, rfl, rfl⟩, rfl, rfl, hJ⟩ | ⟨rfl, ⟨rfl, rfl, rfl, rfl, rfl⟩, h1, rfl, rfl, ⟨rfl, rfl⟩, rfl, _, _, _⟩ | ⟨rfl, ⟨rfl, rfl, rfl, rfl, rfl⟩, rfl, rfl, rfl, ⟨rfl, rfl⟩, rfl, rfl, _, _⟩
 ·have e : orB (⟨1, 0, 0, 0, x, y, vx, vy, an, sp, de, 0, k, r, ao, n, c, f⟩ : Or) ++ l = nb 1 1 ++ (nb 8 x ++ (nb 8 y ++ (nb 8 vx ++ (nb 8 vy ++ (nb 8 an ++ (nb 8 sp ++ (nb 8 de ++ (shB k r n f ++ l)))))))) := by
   unfold orB; simp only [if_true, List.append_assoc]
  rw [e]
  unfold dO
  rw [dN_nb 1 (by omega) 1 (by omega) (by omega), if_pos rfl]
  unfold dO1
  simp only []
  rw [dV_of ix iy]
  simp only []
  rw [dV_of ivx ivy]
  simp only []
  rw [dN_nb8 an ian]
  simp only []
  rw [dN_nb8 sp isp]
  simp only []
  rw [dN_nb8 de ide]
  simp only []
  rw [dS_of (k := k) (r := r) (n := n) (f := f) hB.shape ir iff_]
  unfold nrm
  simp only [ptsL_len]
 ·have h0 : 0 ≤ kd ∧ kd < 256 ^ 1 := by rcases hk with rfl | rfl <;> omega
  have hn1 : ¬ kd = 1 := by rcases hk with rfl | rfl <;> omega
  have e : orB (⟨kd, id, 0, 0, 0, 0, 0, 0, 0, 0, 0, 0, 0, 0, ao, 0, c, f⟩ : Or) ++ l = nb 1 kd ++ (nb 8 id ++ l) := by
   unfold orB; simp only []; rw [if_neg hn1, if_pos hk, List.append_assoc]
  rw [e]
  unfold dO
  rw [dN_nb 1 (by omega) kd h0.1 h0.2, if_neg hn1, if_pos hk]
  unfold dO2
  rw [dN_nb8 id ie]
  rfl
 ·have e : orB (⟨3, 0, a, b, x, y, vx, vy, 0, 0, 0, ln, 0, 0, ao, 0, c, f⟩ : Or) ++ l = nb 1 3 ++ (nb 8 a ++ (nb 8 b ++ (nb 8 x ++ (nb 8 y ++ (nb 8 vx ++ (nb 8 vy ++ (nb 8 ln ++ l))))))) := by
   unfold orB; simp only []
   rw [if_neg (show ¬ (3 : Int) = 1 by decide), if_neg (show ¬ ((3 : Int) = 2 ∨ (3 : Int) = 4) by decide), if_pos trivial]
   simp only [List.append_assoc]
  rw [e]
  unfold dO
  rw [dN_nb 1 (by omega) 3 (by omega) (by omega), if_neg (show ¬ (3 : Int) = 1 by decide), if_neg (show ¬ ((3 : Int) = 2 ∨ (3 : Int) = 4) by decide), if_pos rfl]
  unfold dO3
  simp only []
  rw [dN_nb8 a ia]
  simp only []
  rw [dN_nb8 b ib]
  simp only []
  rw [dV_of ix iy]
  simp only []
  rw [dV_of ivx ivy]
  simp only []
  rw [dN_nb8 ln iln]
  rfl
 ·have e : orB (⟨5, id, 0, 0, 0, 0, vx, vy, 0, sp, 0, 0, 0, 0, ao, 0, c, f⟩ : Or) ++ l = nb 1 5 ++ (nb 8 id ++ (nb 8 vx ++ (nb 8 vy ++ (nb 8 sp ++ l)))) := by
   unfold orB; simp only []
   rw [if_neg (show ¬ (5 : Int) = 1 by decide), if_neg (show ¬ ((5 : Int) = 2 ∨ (5 : Int) = 4) by decide), if_neg (show ¬ (5 : Int) = 3 by decide), if_pos trivial]
   simp only [List.append_assoc]
  rw [e]
  unfold dO
  rw [dN_nb 1 (by omega) 5 (by omega) (by omega), if_neg (show ¬ (5 : Int) = 1 by decide), if_neg (show ¬ ((5 : Int) = 2 ∨ (5 : Int) = 4) by decide), if_neg (show ¬ (5 : Int) = 3 by decide), if_pos rfl]
  unfold dO5
  simp only []
  rw [dN_nb8 id ie]
  simp only []
  rw [dV_of ivx ivy]
  simp only []
  rw [dN_nb8 sp isp]
  rfl
 ·have e : orB (⟨6, 0, 0, 0, 0, 0, vx, vy, 0, 0, 0, 0, 0, 0, ao, 0, c, f⟩ : Or) ++ l = nb 1 6 ++ (nb 8 vx ++ (nb 8 vy ++ l)) := by
   unfold orB; simp only []
   rw [if_neg (show ¬ (6 : Int) = 1 by decide), if_neg (show ¬ ((6 : Int) = 2 ∨ (6 : Int) = 4) by decide), if_neg (show ¬ (6 : Int) = 3 by decide), if_neg (show ¬ (6 : Int) = 5 by decide), if_pos trivial]
   simp only [List.append_assoc]
  rw [e]
  unfold dO
  rw [dN_nb 1 (by omega) 6 (by omega) (by omega), if_neg (show ¬ (6 : Int) = 1 by decide), if_neg (show ¬ ((6 : Int) = 2 ∨ (6 : Int) = 4) by decide), if_neg (show ¬ (6 : Int) = 3 by decide), if_neg (show ¬ (6 : Int) = 5 by decide), if_pos rfl]
  unfold dO6
  rw [dV_of ivx ivy]
  rfl
def dC (most : Int) (s : Rs) : Int × Rs := if most < (dN 2 s).1 then (0, none) else dN 2 s
def dBat (s : Rs) : List Or × Rs := dRead dO (dC 64 s).1.toNat (dC 64 s).2
theorem dC_ok {most : Int} {s : Rs} (h : RsOk s) : RsOk (dC most s).2 := by
 unfold dC
 split
 ·intro l e; cases e
 ·exact dN_ok h
theorem bat_of {L : List Or} (hP : ∀ o ∈ L, OrderP o) (hI : ∀ o ∈ L, OrI o) (h64 : L.length ≤ 64) : dBat (some (batB L)) = (L.map nrm, some []) := by
 have h := dRead_of (one := dO) (enc := orB) nrm L [] (fun o ho l => dO_of (hP o ho) (hI o ho) l)
 rw [List.append_nil] at h
 unfold dBat dC batB
 rw [dN_nb 2 (by omega) (L.length : Nat) (by omega) (by omega), if_neg (by simp only []; omega)]
 simp only [Int.toNat_natCast]
 exact h
end Go.Proofs.YtgdcphmmehedoaaGreat.Fx
/- Package codec: vectors are read. -/
namespace Go.Proofs.YtgdcphmmehedoaaGreat.Fx
open Go.ChangeShapes Go.WideShapes Go.ChangeAt Go.RowKit
set_option linter.unusedVariables false
theorem But.then_' {X Y : Nat → Prop} {a b c : World} (h : But X a b) (k : But Y b c) (hY : ∀ g, Y g → X g ∨ a.heap.size ≤ g) : But X a c :=
 ⟨k.os.trans h.os, k.tape.trans h.tape, k.output.trans h.output, Nat.le_trans h.size k.size, fun i hi hx => (k.block i (Nat.lt_of_lt_of_le hi h.size) fun hy => by
  rcases hY i hy with e | e
  ·exact hx e
  ·omega).trans (h.block i hi hx), fun x => (k.marks x).trans (h.marks x)⟩
theorem own_butK {w v : World} {base n : Nat} {t : TypeId} {size : Nat} {x : Value} {xs : List Value} {X : Nat → Prop} (h : w.ownsRow base t size x n xs) (k : But X w v) (hx : ∀ b, some b = x.ownBlock → ¬ X b) : v.ownsRow base t size x n xs := by
 refine ⟨h.1, h.2.imp id ?_⟩
 rintro ⟨g, cap, cur, e, hb, hg, r⟩
 have hh : Has w g t cur := hg
 exact ⟨g, cap, cur, e, hb, hh.but k (hx g (by rw [e]; rfl)), r⟩
abbrev rdV (pb : Nat) : Value := .agg #[.pointer (some ⟨pb, 0, none⟩)]
theorem rreadV_c {pb B N : Nat} {s : Rs} {w : World} (h : Rd w pb B s) (hs : RsOk s) (hB : B ≤ w.heap.size) (hN : N ≤ 1000000) :
  Calls Tryz.prog 100 #[rdV pb, .int .i64 (N : Nat), .func (.methodOf 88 "V") #[] #[]] w fun e w' => ∃ x, e = .returned x ∧ w'.ownsRow w.heap.size 28 2 x (dRead dV N s).1.length (flatE encP (dRead dV N s).1) ∧ Rd w' pb B (dRead dV N s).2 ∧ But (fun b => b = pb) w w' := by
 have HB := hid hB
 have KA : Hid (Made w.heap.size w (w.alloc (.cells #[.pointer (some ⟨pb, 0, none⟩)] 88))) := (Made.rfl_ _ _).cells (Nat.le_refl _) _ _
 have HR := hid (h.kept KA.out)
 have HS := hid hs
 have HP := hid h.1
 obtain ⟨g1, eg1⟩ : ∃ g, w.heap.size = g := ⟨_, rfl⟩
 have HG1 := hid eg1
 obtain ⟨W, eW⟩ : ∃ W, W = w.alloc (.cells #[.pointer (some ⟨pb, 0, none⟩)] 88) := ⟨_, rfl⟩
 have HH : Hid (Has W g1 88 #[.pointer (some ⟨pb, 0, none⟩)]) := by unfold Hid; rw [eW, ← eg1]; exact has_new _ _ _
 rw [← eW] at KA HR
 obtain ⟨iO, hiO, hz0, hz1, hz2⟩ := info_parts info_V
 have iHi := hid hiO; have iH0 := hid hz0; have iH1 := hid hz1; have iH2 := hid hz2
 clear h hs hB hiO hz0 hz1 hz2
 go_enter Tryz.func100, Tryz.ntmps100
 go_upto_region 1 with fail
 rw [← eW]
 clear eW
 try rw [eg1]
 clear eg1
 go_wp2_with fail
 go_loopg [7] N (fun gg s7 wx => ∃ (ds : List (Int × Int)) (s1 : Rs), ds.length + gg = N ∧ Hid (wx.ownsRow g1 28 2 s7 ds.length (flatE encP ds)) ∧ Hid (Rd wx pb B s1) ∧ Hid (RsOk s1) ∧ Hid (dRead dV N s = (ds ++ (dRead dV (N - ds.length) s1).1, (dRead dV (N - ds.length) s1).2)) ∧ Hid (But (fun b => b = pb) w wx) ∧ Hid (Has wx g1 88 #[.pointer (some ⟨pb, 0, none⟩)]) ∧ Hid (g1 ≤ wx.heap.size))
 case atStart => exact ⟨[], s, by simp, World.ownsRow_nil _ _ _ _, HR.out, HS.out, by simp [Hid], Made.but (by rw [HG1.out] at *; exact KA.out), HH.out, by have := HH.out.here; unfold Hid; omega⟩
 case round =>
  obtain ⟨ds, s1, hk, HW, HR1, HS1, HD, HM, HH1, HZ⟩ := hrel
  obtain ⟨ao, c, e7, hkc, _, _⟩ := LsT.of_own (enc := encP) (k := 2) (l := ds) (fun _ => rfl) HW.out
  subst e7
  obtain ⟨k, ek⟩ : ∃ k, ds.length = k := ⟨_, rfl⟩
  rw [ek] at hk HW
  rw [ek]
  have EK := hid ek
  clear ek hkc
  have p0 : wr.cell? ⟨g1, 0, none⟩ = some (.pointer (some ⟨pb, 0, none⟩)) := HH1.out.at_ 0
  by_cases hkm : k < N
  ·have hlt : decide ((k : Int) < (N : Int)) = true := decide_eq_true (by omega)
   have HBad := hid (rB_c HR1.out)
   cases s1 with
   | none =>
    go_wp2_with fail
    refine HBad.out.mono ?_
    rintro e w1 ⟨rfl, rfl⟩
    go_wp2_with fail
    go_ret
    have e := HD.out
    rw [dRead_none, List.append_nil] at e
    rw [e]
    exact ⟨_, rfl, by rw [EK.out, HG1.out]; exact HW.out, HR1.out, HM.out⟩
   | some l1 =>
    have HV := hid (rV_c HR1.out HS1.out (by have := HM.out.size; have := HB.out; omega))
    go_wp2_with fail
    refine HBad.out.mono ?_
    rintro e w1 ⟨rfl, rfl⟩
    go_wp2_with fail
    rw [show Sem.run Tryz.prog (method _ _ (.agg #[.pointer (some ⟨pb, 0, none⟩)]) "V") wr = .ok (61, .pointer (some ⟨pb, 0, none⟩)) wr by kernel_rfl, Result.andThen_ok]
    rw [show Sem.run Tryz.prog (callFunc _ _) wr = .ok (.enter 61 #[.pointer (some ⟨pb, 0, none⟩)]) wr by kernel_rfl, Oper.upon_enter]
    obtain ⟨p, ep⟩ : ∃ p, (dV (some l1)).1 = p := ⟨_, rfl⟩
    obtain ⟨s2, es2⟩ : ∃ z, (dV (some l1)).2 = z := ⟨_, rfl⟩
    have HIp := hid (dV_i HS1.out)
    have HS2 := hid (dV_ok HS1.out)
    have HD2 : Hid (dRead dV N s = ((ds ++ [p]) ++ (dRead dV (N - (k + 1)) s2).1, (dRead dV (N - (k + 1)) s2).2)) := by
     have e := HD.out
     rw [EK.out, show N - k = (N - (k + 1)) + 1 by omega, dRead_some, ep, es2] at e
     unfold Hid
     rw [e, List.append_assoc]
     rfl
    rw [ep] at HIp
    rw [es2] at HS2
    rw [ep, es2] at HV
    clear ep es2
    obtain ⟨x, y⟩ := p
    refine HV.out.mono ?_
    rintro e w3 ⟨rfl, hR3, hM3⟩
    have HR3 := hid hR3
    have HM3 := hid (HM.out.then_ hM3)
    have hpg : ¬ g1 = pb := by have := HP.out; have := HB.out; have := HG1.out; omega
    have HH3 := hid (HH1.out.but hM3 hpg)
    have HW3 := hid (own_butK HW.out hM3 (fun b hb e => by have := HW.out.lt b hb.symm; have := HP.out; have := HB.out; have := HG1.out; have : b = pb := e; omega))
    have HZ3 : Hid (g1 ≤ w3.heap.size) := Nat.le_trans HZ.out hM3.size
    clear hR3 hM3
    have HOw : Hid ((w3.alloc (.cells #[.int .i64 x, .int .i64 y] 28)).ownsRow g1 28 2 (.slice ao k c) k (flatE encP ds)) := HW3.out.alloc _
    have HNb : Hid (Has (w3.alloc (.cells #[.int .i64 x, .int .i64 y] 28)) w3.heap.size 28 #[.int .i64 x, .int .i64 y]) := has_new _ _ _
    have hz3 : g1 ≤ (w3.alloc (.cells #[.int .i64 x, .int .i64 y] 28)).heap.size := by have := HZ3.out; simp; omega
    go_wp2_with (at_builtin; refine wpList_append_at rfl (.tmp 18) (.tmp 22) 31 rfl g1 28 iO (.agg #[.int .i64 0, .int .i64 0]) 2 16 Tryz.underlying31 iHi.out iH0.out iH1.out iH2.out rfl (by decide) (.slice ao k c) k (flatE encP ds) rfl HOw.out ⟨w3.heap.size, 0, none⟩ 1 1 [.int .i64 x, .int .i64 y] rfl rfl (has_news HNb.out) (by intro v hv; simp at hv; rcases hv with rfl | rfl <;> rfl) (by unfold maxLen; omega) (by omega) hz3 (by omega) ?_)
    intro v6 w6 hown hbt hnx
    have kb : But (fun b => some b = (Value.slice ao k c).ownBlock) w3 w6 := (Made.but ((Made.rfl_ w3.heap.size w3).cells (Nat.le_refl _) _ _)).then_ hbt
    have hlow : ∀ b, some b = (Value.slice ao k c).ownBlock → g1 ≤ b := fun b hb => (HW3.out.lt b hb.symm).1
    have HW6 : Hid (w6.ownsRow g1 28 2 v6 (k + 1) (flatE encP (ds ++ [(x, y)]))) := by
     unfold Hid
     rw [← flatE_snoc]
     exact hown
    have HR6 := hid (HR3.out.but kb (fun b hb => by have := hlow b hb; have := HB.out; have := HG1.out; omega))
    have HM6 : Hid (But (fun b => b = pb) w w6) := HM3.out.then_' kb (fun b hb => .inr (by have := hlow b hb; have := HG1.out; omega))
    have HH6 : Hid (Has w6 g1 88 #[.pointer (some ⟨pb, 0, none⟩)]) := HH3.out.but kb (own_apart HW3.out HH3.out (by decide))
    have HZ6 : Hid (g1 ≤ w6.heap.size) := Nat.le_trans HZ3.out kb.size
    clear hown hbt hnx kb hlow
    go_wp2_with fail
    go_roundg (N - (k + 1))
    case measure => omega
    case rel => exact ⟨ds ++ [(x, y)], s2, by rw [List.length_append, EK.out]; simp; omega, by rw [List.length_append, EK.out]; exact HW6.out, HR6.out, HS2.out, by rw [List.length_append, EK.out]; exact HD2.out, HM6.out, HH6.out, HZ6.out⟩
  ·have hlt : decide ((k : Int) < (N : Int)) = false := decide_eq_false (by omega)
   go_wp2_with fail
   go_ret
   have e := HD.out
   rw [EK.out, show N - k = 0 by omega, show dRead dV 0 s1 = ([], s1) from rfl, List.append_nil] at e
   rw [e]
   exact ⟨_, rfl, by rw [EK.out, HG1.out]; exact HW.out, HR1.out, HM.out⟩
end Go.Proofs.YtgdcphmmehedoaaGreat.Fx