/- Package disk: a name's file; how an operation on a file begins; Arm. -/
import Derived.Test.YtdaelblapgcljaaDkB
namespace Go.Proofs.Ytdaelblapgcljaa.Fx
open Go.ChangeShapes Go.WideShapes Go.ChangeAt Go.RowKit Go.Maps
set_option linter.unusedVariables false

/-- what holds always of a landed disk -/
structure DOl (d : Dsk) : Prop where
  ok : DOk d
  pos : ∀ f ∈ d.files, 0 < f.id
  cz : ∀ c ∈ d.chg, (c.to.size = 0 ∧ c.f = 0) ∨ (nameD c.to ∧ 0 < c.f)
  by8 : ∀ f ∈ d.files, ∀ b ∈ f.b, b < 256
  cf : ∀ c ∈ d.chg, c.fr.size ≤ 24
  cn : ∀ c ∈ d.chg, c.f ≤ d.next
def idOf (l : List Nam) (s : ByteArray) : Nat := ((lookD l s).map (·.f)).getD 0
def ptrF (k : Dk) (d : Dsk) (i : Nat) : Value := match fileD d.files i with
  | some f => .pointer (some ⟨k.bl f.id, 0, none⟩)
  | none => .pointer none
def fptr (k : Dk) (d : Dsk) (s : ByteArray) : Value := match lookD d.names s with
  | some n => .pointer (some ⟨k.bl n.f, 0, none⟩)
  | none => .pointer none
set_option maxRecDepth 100000 in
theorem Rest.look {w : World} {k : Dk} {d : Dsk} (h : Rest w k d) {s : ByteArray} (hs : s.size ≤ maxLen) :
    (Instr.lookup 58 (.map (some k.bn)) (.string s) false).run Try.prog w = .ok (.int .i64 (idOf d.names s : Nat)) w := by
  obtain ⟨D, ho, hm⟩ := h.mn
  obtain ⟨c, hr, hc, _⟩ := ho.lookup_int lawS Try.underlying58 Try.underlying3 (zeroI w) (keyS hs)
  suffices hcc : c = (idOf d.names s : Nat) by rw [hr, hcc]
  unfold idOf
  cases e : lookD d.names s with
  | none =>
    rw [hm.at_no (fun n hn => sk_ne (look_none e n hn))] at hc
    injection hc with hc
    injection hc with _ hc
    rw [← hc]; rfl
  | some n =>
    obtain ⟨h1, h2⟩ := look_mem e
    have := hm.at_ n h1 (.lit (.int .i64 0))
    rw [show keN n = sk s by rw [← h2]] at this
    rw [this] at hc
    injection hc with hc
    injection hc with _ hc
    rw [← hc]; rfl
theorem file_mem {l : List Fil} {i : Nat} {f : Fil} (h : fileD l i = some f) : f ∈ l ∧ f.id = i := ⟨List.mem_of_find?_eq_some h, by simpa using List.find?_some h⟩
theorem file_none {l : List Fil} {i : Nat} (h : fileD l i = none) : ∀ f ∈ l, f.id ≠ i := fun f hf => by simpa using List.find?_eq_none.mp h f hf
set_option maxRecDepth 100000 in
/-- a number's file, in a map of files -/
theorem map_getf {w : World} {b n : Nat} {bl : Nat → Nat} {fs : List Fil} {D : DataW Unit} (ho : w.ownsMap Try.prog 3 ptrE b n D) (hm : FlM bl D fs) {i : Int} (h1 : -9223372036854775808 ≤ i) (h2 : i ≤ 9223372036854775807) :
    (Instr.lookup 59 (.map (some b)) (.int .i64 i) false).run Try.prog w = .ok (match fs.find? (fun f => decide ((f.id : Int) = i)) with | some f => .pointer (some ⟨bl f.id, 0, none⟩) | none => .pointer none) w := by
  obtain ⟨v, ps, hr, hv⟩ := ho.lookup lawI Try.underlying59 (zeroF w) ptrE_none (keyI h1 h2)
  rw [hr]
  suffices hvv : v = (match fs.find? (fun f => decide ((f.id : Int) = i)) with | some f => .pointer (some ⟨bl f.id, 0, none⟩) | none => .pointer none) by rw [hvv]
  cases e : fs.find? (fun f => decide ((f.id : Int) = i)) with
  | none =>
    rw [hm.at_no (fun n hn => kk_ne (by simpa using List.find?_eq_none.mp e n hn))] at hv
    rcases ptrE_inv hv with ⟨b, rfl, e2⟩ | ⟨rfl, _⟩
    · cases e2
    · rfl
  | some f =>
    have h1 := List.mem_of_find?_eq_some e
    have h2 : (f.id : Int) = i := by simpa using List.find?_some e
    have := hm.at_ f h1 .nil
    rw [show keF f = kk i by show kk _ = _; rw [h2]] at this
    rw [this] at hv
    rcases ptrE_inv hv with ⟨b, rfl, e2⟩ | ⟨rfl, e2⟩
    · injection e2 with e2
      injection e2 with e2
      injection e2 with _ e2
      have : bl f.id = b := by omega
      show _ = Value.pointer (some ⟨bl f.id, 0, none⟩)
      rw [this]
    · cases e2
theorem find_nat (fs : List Fil) (i : Nat) : fs.find? (fun f => decide ((f.id : Int) = (i : Nat))) = fileD fs i := by
  unfold fileD
  congr 1
  funext f
  exact decide_eq_decide.mpr (by omega)
theorem Rest.getf {w : World} {k : Dk} {d : Dsk} (h : Rest w k d) {i : Nat} (hi : i ≤ 9223372036854775807) :
    (Instr.lookup 59 (.map (some k.bf)) (.int .i64 (i : Nat)) false).run Try.prog w = .ok (ptrF k d i) w := by
  obtain ⟨D, ho, hm⟩ := h.mf
  rw [map_getf ho hm (by omega) (by omega), find_nat]
  rfl
theorem DOl.fptr {k : Dk} {d : Dsk} (h : DOl d) (s : ByteArray) : ptrF k d (idOf d.names s) = fptr k d s := by
  unfold idOf Fx.fptr ptrF
  cases e : lookD d.names s with
  | none =>
    have : fileD d.files 0 = none := List.find?_eq_none.mpr fun f hf => by have := h.pos f hf; simp; omega
    show (match fileD d.files 0 with | some f => _ | none => _) = _
    rw [this]
  | some n =>
    obtain ⟨f, hf, h1, h2⟩ := h.ok.file e
    show (match fileD d.files n.f with | some f => _ | none => _) = _
    rw [h1]
    simp only [h2]
theorem idOf_le {d : Dsk} (h : DOl d) (s : ByteArray) : idOf d.names s ≤ d.next := by
  unfold idOf
  cases e : lookD d.names s with
  | none => exact Nat.zero_le _
  | some n =>
    obtain ⟨f, hf, h1, h2⟩ := h.ok.file e
    have := h.ok.next f hf
    show n.f ≤ _
    omega
set_option maxRecDepth 100000 in
theorem dfile_c {w : World} {k : Dk} {d : Dsk} (h : DAt w k d) (ho : DOl d) (hs : SmD d) {s : ByteArray} (hz : s.size ≤ maxLen) : Calls Try.prog 42 #[.pointer (some ⟨k.p, 0, none⟩), .string s] w fun e w' => e = .returned (fptr k d s) ∧ ∃ m, w' = w.drewN m := by
  have hid1 := idOf_le ho s
  have hn := hs.next
  have hr : Rest w.drew k d := h.rest.tn (tn_drew w NilB) fun _ hh => hh.elim
  have l1 := hr.look hz
  have l2 := hr.getf (i := idOf d.names s) (by omega)
  rw [ho.fptr s] at l2
  obtain ⟨-, c1, -, -, c4, -⟩ := h.cells
  obtain ⟨p, ep⟩ : ∃ p, k.p = p := ⟨_, rfl⟩
  obtain ⟨bn, en⟩ : ∃ p, k.bn = p := ⟨_, rfl⟩
  obtain ⟨bf, ef⟩ : ∃ p, k.bf = p := ⟨_, rfl⟩
  obtain ⟨i, ei⟩ : ∃ p, idOf d.names s = p := ⟨_, rfl⟩
  obtain ⟨V, eV⟩ : ∃ V, fptr k d s = V := ⟨_, rfl⟩
  rw [ep, en] at c1
  rw [ep, ef] at c4
  rw [en, ei] at l1
  rw [ef, ei, eV] at l2
  rw [ep, eV]
  clear h hr ho hs ep en ef ei eV
  go_enter Try.func42, Try.ntmps42
  go_wp2_with fail
  go_region
  go_wp2_with fail
  go_ret
  exact ⟨rfl, 1, rfl⟩
theorem drewN_below (w : World) (m : Nat) : Below w.heap.size w (w.drewN m) := ((Made.rfl_ _ _).draws m).1
theorem fptr_some {k : Dk} {d : Dsk} {s : ByteArray} {n : Nam} (h : lookD d.names s = some n) : fptr k d s = .pointer (some ⟨k.bl n.f, 0, none⟩) := by unfold fptr; rw [h]
theorem fptr_none {k : Dk} {d : Dsk} {s : ByteArray} (h : lookD d.names s = none) : fptr k d s = .pointer none := by unfold fptr; rw [h]
theorem opD_names (d : Dsk) : (opD d).1.names = d.names := rfl
theorem fptr_op (k : Dk) (d : Dsk) (s : ByteArray) : fptr k (opD d).1 s = fptr k d s := rfl
theorem DOl.op {d : Dsk} (h : DOl d) : DOl (opD d).1 := ⟨h.ok.op, h.pos, h.cz, h.by8, h.cf, h.cn⟩
theorem opD_ans (d : Dsk) : (opD d).2 = 8 ∨ (opD d).2 = 7 ∨ (opD d).2 = 0 := by
  unfold opD; simp only
  split
  · exact .inl rfl
  · split
    · exact .inr (.inl rfl)
    · exact .inr (.inr rfl)
/-- find: what it answers -/
def findV (k : Dk) (d : Dsk) (s : ByteArray) : Value × Int := if (opD d).2 ≠ 0 then (.pointer none, (opD d).2) else match lookD d.names s with
  | none => (.pointer none, 4)
  | some n => (.pointer (some ⟨k.bl n.f, 0, none⟩), 0)
theorem DOl.idle {d : Dsk} (h : DOl d) : d.files.length ≤ d.next := by
  have h1 : (d.files.map (·.id)).Nodup := h.ok.ids.imp fun hlt => by omega
  have h2 : ∀ i ∈ d.files.map (·.id), i ∈ List.range' 1 d.next := by
    intro i hi
    obtain ⟨f, hf, rfl⟩ := List.mem_map.mp hi
    have := h.pos f hf; have := h.ok.next f hf
    rw [List.mem_range'_1]; omega
  have := nodup_le h1 h2
  simpa using this
theorem NamOk.le {l : List Nam} {fs : List Fil} (h : NamOk l fs) : l.length ≤ fs.length := by
  have h1 : (l.map (·.f)).Nodup := h.files
  have h2 : ∀ i ∈ l.map (·.f), i ∈ fs.map (·.id) := by
    intro i hi
    obtain ⟨n, hn, rfl⟩ := List.mem_map.mp hi
    obtain ⟨f, hf, e⟩ := h.there n hn
    exact List.mem_map.mpr ⟨f, hf, e⟩
  simpa using nodup_le h1 h2
theorem findV_cases (k : Dk) (d : Dsk) (s : ByteArray) : (∃ c : Int, (c = 4 ∨ c = 7 ∨ c = 8) ∧ findV k d s = (.pointer none, c) ∧ ((opD d).2 = c ∧ c ≠ 0 ∨ (opD d).2 = 0 ∧ c = 4 ∧ lookD d.names s = none)) ∨ ∃ n, (opD d).2 = 0 ∧ lookD d.names s = some n ∧ findV k d s = (.pointer (some ⟨k.bl n.f, 0, none⟩), 0) := by
  by_cases h : (opD d).2 = 0
  · cases e : lookD d.names s with
    | none =>
      refine .inl ⟨4, .inl rfl, ?_, .inr ⟨h, rfl, rfl⟩⟩
      unfold findV; rw [if_neg (by simp [h]), e]
    | some n =>
      refine .inr ⟨n, h, rfl, ?_⟩
      unfold findV; rw [if_neg (by simp [h]), e]
  · refine .inl ⟨(opD d).2, ?_, ?_, .inl ⟨rfl, h⟩⟩
    · rcases opD_ans d with e | e | e
      · exact .inr (.inr e)
      · exact .inr (.inl e)
      · exact absurd e h
    · unfold findV; rw [if_pos h]
set_option maxRecDepth 100000 in
set_option maxHeartbeats 2000000 in
theorem dfind_c {w : World} {k : Dk} {d : Dsk} (h : DAt w k d) (ho : DOl d) (hs : SmD d) (h1 : d.ops + 1 ≤ 1073741824) {s : ByteArray} (hz : s.size ≤ maxLen) : Calls Try.prog 44 #[.pointer (some ⟨k.p, 0, none⟩), .string s] w fun e w' => e = .returned (.tuple #[(findV k d s).1, .int .i64 (findV k d s).2]) ∧ DRes w w' k d k (opD d).1 := by
  have H := hid (dbegin_c h hs)
  have HF := hid (fun (v : World) (hv : DAt v k (opD d).1) => dfile_c hv ho.op ⟨hs.room, ⟨by have := hs.ops.1; show 0 ≤ d.ops + 1; omega, h1⟩, hs.next, hs.chg, hs.len⟩ (s := s) hz)
  obtain ⟨p, ep⟩ : ∃ p, k.p = p := ⟨_, rfl⟩
  have HC := hid (opD_ans d)
  rw [ep] at H HF ⊢
  obtain ⟨r, er⟩ : ∃ r, (opD d).2 = r := ⟨_, rfl⟩
  rw [er] at H HC
  have er := hid er
  rcases HC.out with rfl | rfl | rfl
  · have HV : Hid (findV k d s = (.pointer none, 8)) := by unfold Hid findV; rw [er.out]; rfl
    clear h ho hs ep HF HC
    go_enter Try.func44, Try.ntmps44
    go_wp2_with fail
    refine H.out.mono ?_
    rintro e w' ⟨rfl, hD⟩
    have hD := hid hD
    go_wp2_with fail
    refine bodyPost_ret (v := .tuple #[.pointer none, .int .i64 8]) (by simp [results, Try.results44, go_sem]) rfl ?_
    exact ⟨by rw [HV.out], hD.out⟩
  · have HV : Hid (findV k d s = (.pointer none, 7)) := by unfold Hid findV; rw [er.out]; rfl
    clear h ho hs ep HF HC
    go_enter Try.func44, Try.ntmps44
    go_wp2_with fail
    refine H.out.mono ?_
    rintro e w' ⟨rfl, hD⟩
    have hD := hid hD
    go_wp2_with fail
    refine bodyPost_ret (v := .tuple #[.pointer none, .int .i64 7]) (by simp [results, Try.results44, go_sem]) rfl ?_
    exact ⟨by rw [HV.out], hD.out⟩
  · cases e : lookD d.names s with
    | none =>
      have HV : Hid (findV k d s = (.pointer none, 4)) := by unfold Hid findV; rw [er.out, e]; rfl
      have e2 : Hid (fptr k (opD d).1 s = .pointer none) := fptr_none (d := (opD d).1) e
      clear h ho hs ep HC e
      go_enter Try.func44, Try.ntmps44
      go_wp2_with fail
      refine H.out.mono ?_
      rintro e w' ⟨rfl, hD⟩
      have hD := hid hD
      go_wp2_with fail
      refine (HF.out w' hD.out.at_).mono ?_
      rintro e w2 ⟨rfl, m, rfl⟩
      rw [e2.out]
      go_wp2_with fail
      refine bodyPost_ret (v := .tuple #[.pointer none, .int .i64 4]) (by simp [results, Try.results44, go_sem]) rfl ?_
      exact ⟨by rw [HV.out], hD.out.then_ (DRes.below hD.out.at_ (drewN_below _ _))⟩
    | some n =>
      have HV : Hid (findV k d s = (.pointer (some ⟨k.bl n.f, 0, none⟩), 0)) := by unfold Hid findV; rw [er.out, e]; rfl
      have e2 : Hid (fptr k (opD d).1 s = .pointer (some ⟨k.bl n.f, 0, none⟩)) := fptr_some (d := (opD d).1) e
      obtain ⟨g, eg⟩ : ∃ g, k.bl n.f = g := ⟨_, rfl⟩
      rw [eg] at HV e2
      clear h ho hs ep HC e eg
      go_enter Try.func44, Try.ntmps44
      go_wp2_with fail
      refine H.out.mono ?_
      rintro e w' ⟨rfl, hD⟩
      have hD := hid hD
      go_wp2_with fail
      refine (HF.out w' hD.out.at_).mono ?_
      rintro e w2 ⟨rfl, m, rfl⟩
      rw [e2.out]
      go_wp2_with fail
      refine bodyPost_ret (v := .tuple #[.pointer (some ⟨g, 0, none⟩), .int .i64 0]) (by simp [results, Try.results44, go_sem]) rfl ?_
      exact ⟨by rw [HV.out], hD.out.then_ (DRes.below hD.out.at_ (drewN_below _ _))⟩
end Go.Proofs.Ytdaelblapgcljaa.Fx
