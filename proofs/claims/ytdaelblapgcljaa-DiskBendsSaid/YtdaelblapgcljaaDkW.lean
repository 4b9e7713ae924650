/- Package disk, plainly: what holds always, and how much there is, kept by each operation. -/
import Derived.Test.YtdaelblapgcljaaDkV
namespace Go.Proofs.Ytdaelblapgcljaa.Fx
open Go.ChangeShapes Go.WideShapes Go.ChangeAt Go.RowKit Go.Maps
set_option linter.unusedVariables false

structure BudD (d : Dsk) (n : Nat) : Prop where
  room : 0 ≤ d.room ∧ d.room ≤ 9223372036854775807
  ops : 0 ≤ d.ops ∧ d.ops ≤ n
  next : d.next ≤ n
  chg : d.chg.length ≤ n
  len : lensD d.files ≤ n
theorem BudD.sm {d : Dsk} {n : Nat} (h : BudD d n) (hn : n ≤ 1073741824) : SmD d := ⟨h.room, ⟨h.ops.1, by have := h.ops.2; omega⟩, by have := h.next; omega, by have := h.chg; omega, by have := h.len; omega⟩
theorem BudD.up {d : Dsk} {n m : Nat} (h : BudD d n) (hn : n ≤ m) : BudD d m := ⟨h.room, ⟨h.ops.1, by have := h.ops.2; omega⟩, Nat.le_trans h.next hn, Nat.le_trans h.chg hn, Nat.le_trans h.len hn⟩
theorem BudD.op {d : Dsk} {n : Nat} (h : BudD d n) : BudD (opD d).1 (n + 1) := ⟨h.room, ⟨by have := h.ops.1; show 0 ≤ d.ops + 1; omega, by have := h.ops.2; show d.ops + 1 ≤ _; omega⟩, Nat.le_succ_of_le h.next, Nat.le_succ_of_le h.chg, Nat.le_succ_of_le h.len⟩
theorem BudD.change {d : Dsk} {n : Nat} (h : BudD d n) (hc : d.chg.length + 1 ≤ n) (c : Chg) : BudD (changeD d c) n := ⟨h.room, h.ops, h.next, by show (d.chg ++ [c]).length ≤ n; simp; omega, h.len⟩
theorem new_bud (room : Int) (h : room ≤ 9223372036854775807) (n : Nat) : BudD (newD room) n := ⟨⟨by show 0 ≤ max room 0; omega, by show max room 0 ≤ _; omega⟩, ⟨by show (0 : Int) ≤ 0; omega, by show (0 : Int) ≤ n; omega⟩, Nat.zero_le _, Nat.zero_le _, Nat.zero_le _⟩
theorem new_ol (room : Int) : DOl (newD room) := ⟨new_ok room, fun f hf => (by cases hf), fun f hf => (by cases hf), fun f hf => (by cases hf), fun f hf => (by cases hf), fun f hf => (by cases hf)⟩
theorem lens_app (a b : List Fil) : lensD (a ++ b) = lensD a + lensD b := by unfold lensD; simp
theorem BudD.create {d : Dsk} {n : Nat} (h : BudD d n) (s : ByteArray) : BudD (createD d s).1 (n + 1) := by
  unfold createD
  simp only
  repeat' split
  all_goals try exact h.op
  have h1 := h.op
  refine BudD.change (d := { (opD d).1 with next := d.next + 1, files := d.files ++ [⟨d.next + 1, [], 0⟩] }) ⟨h1.room, h1.ops, by have := h.next; show d.next + 1 ≤ n + 1; omega, h1.chg, ?_⟩ (by have := h.chg; show d.chg.length + 1 ≤ n + 1; omega) _
  show lensD (d.files ++ [⟨d.next + 1, [], 0⟩]) ≤ n + 1
  rw [lens_app]
  have := h.len
  show lensD d.files + 0 ≤ n + 1
  omega
theorem DOl.create {d : Dsk} (h : DOl d) (s : ByteArray) : DOl (createD d s).1 := by
  have hk := h.ok.create s
  have key : ∀ e : Dsk, (createD d s).1 = e → (e = (opD d).1 ∨ (e = changeD { (opD d).1 with next := d.next + 1, files := d.files ++ [⟨d.next + 1, [], 0⟩] } ⟨ByteArray.empty, s, d.next + 1⟩ ∧ nameD s)) := by
    intro e he
    rw [← he]
    unfold createD
    simp only
    repeat' split
    all_goals try exact .inl rfl
    rename_i ha _ _
    exact .inr ⟨rfl, by simpa using ha⟩
  rcases key _ rfl with e | ⟨e, hs⟩
  · rw [e]; exact h.op
  · rw [e] at hk ⊢
    refine ⟨hk, fun f hf => ?_, fun c hc => ?_, fun f hf b hb => ?_, fun c hc => ?_, fun c hc => ?_⟩
    · rcases List.mem_append.1 hf with hf | hf
      · exact h.pos f hf
      · have := List.mem_singleton.1 hf; subst this; exact Nat.succ_pos _
    · rcases List.mem_append.1 hc with hc | hc
      · exact h.cz c hc
      · have := List.mem_singleton.1 hc; subst this; exact .inr ⟨hs, Nat.succ_pos _⟩
    · rcases List.mem_append.1 hf with hf | hf
      · exact h.by8 f hf b hb
      · have := List.mem_singleton.1 hf; subst this; cases hb
    · rcases List.mem_append.1 hc with hc | hc
      · exact h.cf c hc
      · have := List.mem_singleton.1 hc; subst this; exact Nat.zero_le _
    · rcases List.mem_append.1 hc with hc | hc
      · exact Nat.le_succ_of_le (h.cn c hc)
      · have := List.mem_singleton.1 hc; subst this; exact Nat.le_refl _
theorem DOl.putf {d : Dsk} (h : DOl d) {e : Dsk} (hk : DOk e) {i : Nat} {g : Fil → Fil} (he : e = { (opD d).1 with files := putD d.files i g }) (hg : ∀ f, (g f).id = f.id) (hb : ∀ f ∈ d.files, ∀ b ∈ (g f).b, b < 256) : DOl e := by
  subst he
  refine ⟨hk, fun f hf => ?_, h.cz, fun f hf b hbb => ?_, h.cf, h.cn⟩
  · obtain ⟨y, hy, rfl⟩ := List.mem_map.mp hf
    split
    · rw [hg]; exact h.pos y hy
    · exact h.pos y hy
  · obtain ⟨y, hy, rfl⟩ := List.mem_map.mp hf
    split at hbb
    · exact hb y hy b hbb
    · exact h.by8 y hy b hbb
theorem DOl.append {d : Dsk} (h : DOl d) (s : ByteArray) {b : List Nat} (hb : ∀ x ∈ b, x < 256) : DOl (appendD d s b).1 := by
  have hk := h.ok.append s b
  unfold appendD at hk ⊢
  simp only at hk ⊢
  repeat' split
  all_goals try exact h.op
  rename_i h1 _ n hl h2
  simp only [h1, if_false, hl, h2] at hk
  exact h.putf hk rfl (fun _ => rfl) fun f hf x hx => by
    rcases List.mem_append.1 hx with hx | hx
    · exact h.by8 f hf x hx
    · exact hb x hx
theorem DOl.sync {d : Dsk} (h : DOl d) (s : ByteArray) : DOl (syncD d s).1 := by
  have hk := h.ok.sync s
  unfold syncD at hk ⊢
  simp only at hk ⊢
  repeat' split
  all_goals try exact h.op
  rename_i h1 _ n hl
  simp only [h1, if_false, hl] at hk
  exact h.putf hk rfl (fun _ => rfl) fun f hf x hx => h.by8 f hf x hx
theorem BudD.append {d : Dsk} {n : Nat} (h : BudD d n) (ho : DOl d) (s : ByteArray) (b : List Nat) : BudD (appendD d s b).1 (n + 1 + b.length) := by
  unfold appendD
  simp only
  repeat' split
  all_goals try exact h.op.up (by omega)
  rename_i m hl h2
  have h1 := h.op
  refine ⟨h1.room, ⟨h1.ops.1, by have := h.ops.2; show d.ops + 1 ≤ ((n + 1 + b.length : Nat) : Int); omega⟩, Nat.le_trans h1.next (by omega), Nat.le_trans h1.chg (by omega), ?_⟩
  have h3 := put_sum m.f b d.files ho.ok.ids
  have h4 := h.len
  exact Nat.le_trans h3 (by omega)
theorem sync_len (i : Nat) (l : List Fil) : lensD (putD l i fun f => { f with sure := f.b.length }) = lensD l := by
  unfold lensD putD
  rw [List.map_map]
  congr 1
  refine List.map_congr_left fun f _ => ?_
  show (if f.id = i then _ else f).b.length = _
  split <;> rfl
theorem BudD.sync {d : Dsk} {n : Nat} (h : BudD d n) (s : ByteArray) : BudD (syncD d s).1 (n + 1) := by
  unfold syncD
  simp only
  repeat' split
  all_goals try exact h.op
  have h1 := h.op
  refine ⟨h1.room, h1.ops, h1.next, h1.chg, ?_⟩
  show lensD (putD d.files _ _) ≤ _
  rw [sync_len]
  exact h1.len
theorem DOl.chg1 {d : Dsk} (h : DOl d) {c : Chg} (hk : DOk (changeD (opD d).1 c)) (h1 : (c.to.size = 0 ∧ c.f = 0) ∨ (nameD c.to ∧ 0 < c.f)) (h2 : c.fr.size ≤ 24) (h3 : c.f ≤ d.next) : DOl (changeD (opD d).1 c) := by
  refine ⟨hk, h.pos, fun x hx => ?_, h.by8, fun x hx => ?_, fun x hx => ?_⟩
  · rcases List.mem_append.1 hx with hx | hx
    · exact h.cz x hx
    · have := List.mem_singleton.1 hx; subst this; exact h1
  · rcases List.mem_append.1 hx with hx | hx
    · exact h.cf x hx
    · have := List.mem_singleton.1 hx; subst this; exact h2
  · rcases List.mem_append.1 hx with hx | hx
    · exact h.cn x hx
    · have := List.mem_singleton.1 hx; subst this; exact h3
theorem DOl.look {d : Dsk} (h : DOl d) {s : ByteArray} {n : Nam} (hl : lookD d.names s = some n) : s.size ≤ 24 ∧ 0 < n.f ∧ n.f ≤ d.next := by
  obtain ⟨h1, h2⟩ := look_mem hl
  obtain ⟨f, hf, _, e⟩ := h.ok.file hl
  have := h.pos f hf
  have := h.ok.next f hf
  have := (h.ok.word n h1).2.1
  rw [h2] at this
  exact ⟨this, by omega, by omega⟩
theorem DOl.rename {d : Dsk} (h : DOl d) (s t : ByteArray) : DOl (renameD d s t).1 := by
  have hk := h.ok.rename s t
  unfold renameD at hk ⊢
  simp only at hk ⊢
  repeat' split
  all_goals try exact h.op
  rename_i h1 _ n hl h2 h3
  simp only [h1, if_false, hl, h2, h3] at hk
  obtain ⟨a, b, c⟩ := h.look hl
  exact h.chg1 hk (.inr ⟨by simpa using h2, b⟩) a c
theorem DOl.remove {d : Dsk} (h : DOl d) (s : ByteArray) : DOl (removeD d s).1 := by
  have hk := h.ok.remove s
  unfold removeD at hk ⊢
  simp only at hk ⊢
  repeat' split
  all_goals try exact h.op
  rename_i h1 _ n hl
  simp only [h1, if_false, hl] at hk
  obtain ⟨a, b, c⟩ := h.look hl
  exact h.chg1 hk (.inl ⟨rfl, rfl⟩) a (Nat.zero_le _)
theorem BudD.rename {d : Dsk} {n : Nat} (h : BudD d n) (s t : ByteArray) : BudD (renameD d s t).1 (n + 1) := by
  unfold renameD
  simp only
  repeat' split
  all_goals try exact h.op
  exact h.op.change (by have := h.chg; show d.chg.length + 1 ≤ n + 1; omega) _
theorem BudD.remove {d : Dsk} {n : Nat} (h : BudD d n) (s : ByteArray) : BudD (removeD d s).1 (n + 1) := by
  unfold removeD
  simp only
  repeat' split
  all_goals try exact h.op
  exact h.op.change (by have := h.chg; show d.chg.length + 1 ≤ n + 1; omega) _
theorem read_fst (d : Dsk) (s : ByteArray) : (readD d s).1 = (opD d).1 := by
  unfold readD
  simp only
  repeat' split
  all_goals rfl
theorem DOl.read {d : Dsk} (h : DOl d) (s : ByteArray) : DOl (readD d s).1 := by rw [read_fst]; exact h.op
theorem BudD.read {d : Dsk} {n : Nat} (h : BudD d n) (s : ByteArray) : BudD (readD d s).1 (n + 1) := by rw [read_fst]; exact h.op
theorem DOl.arm {d : Dsk} (h : DOl d) (x y : Int) : DOl (armD d x y) := ⟨h.ok.arm x y, h.pos, h.cz, h.by8, h.cf, h.cn⟩
theorem BudD.arm {d : Dsk} {n : Nat} (h : BudD d n) (x y : Int) : BudD (armD d x y) n := ⟨h.room, h.ops, h.next, h.chg, h.len⟩
theorem forget_cons (l : List Nam) (f : Fil) (fs : List Fil) : forgetL l (f :: fs) = (keepF (named l f.id) true f).toList ++ forgetL l fs := by
  unfold forgetL forgetP
  rw [List.filterMap_cons]
  cases keepF (named l f.id) true f <;> rfl
theorem forget_sum (l : List Nam) : ∀ fs : List Fil, lensD (forgetL l fs) ≤ lensD fs
  | [] => Nat.le_refl _
  | f :: fs => by
    have ih := forget_sum l fs
    rw [forget_cons, lens_app, show lensD (f :: fs) = f.b.length + lensD fs from rfl]
    have : lensD (keepF (named l f.id) true f).toList ≤ f.b.length := by
      cases e : keepF (named l f.id) true f with
      | none => exact Nat.zero_le _
      | some g =>
        show g.b.length + 0 ≤ _
        unfold keepF at e
        split at e
        · cases e; exact Nat.le_refl _
        · split at e
          · rename_i h
            cases e
            simp at h
            show 1 + 0 ≤ f.b.length
            omega
          · cases e
    omega
theorem forget_mem {l : List Nam} {fs : List Fil} {g : Fil} (h : g ∈ forgetL l fs) : ∃ f ∈ fs, g.id = f.id ∧ (g = f ∧ named l f.id = true ∨ g = ⟨f.id, [0], 0⟩) := by
  obtain ⟨f, hf, h1, h2⟩ := mem_forget h
  refine ⟨f, hf, h2, ?_⟩
  unfold keepF at h1
  split at h1
  · rename_i h3; cases h1; exact .inl ⟨rfl, h3⟩
  · split at h1
    · cases h1; exact .inr rfl
    · cases h1
theorem DOl.settle {d : Dsk} (h : DOl d) {n : Nat} (hn : n ≤ d.chg.length) : DOl (settleL d n) := by
  obtain ⟨h1, h2, _⟩ := h.fold hn
  have hN : NamOk (foldT d n) (forgetL (foldT d n) d.files) := ⟨h2.names, h2.files, fun m hm => by
    obtain ⟨f, hf, e⟩ := h2.there m hm
    refine ⟨f, List.mem_filterMap.2 ⟨f, hf, ?_⟩, e⟩
    unfold keepF
    rw [if_pos (named_iff.2 ⟨m, hm, e.symm⟩)]⟩
  refine ⟨⟨forget_ids h.ok.ids, fun g hg => ?_, fun g hg => ?_, h1.word, h1.word, fun c hc => (by cases hc), fun k _ => ?_, rfl⟩, fun g hg => ?_, fun c hc => (by cases hc), fun g hg b hb => ?_, fun c hc => (by cases hc), fun c hc => (by cases hc)⟩
  · obtain ⟨f, hf, e, _⟩ := forget_mem hg
    rw [e]; exact h.ok.next f hf
  · obtain ⟨f, hf, e, ⟨rfl, _⟩ | rfl⟩ := forget_mem hg
    · exact h.ok.sure _ hf
    · exact Nat.zero_le _
  · show NamOk ((([] : List Chg).take k).foldl turnD (foldT d n)) _
    rw [List.take_nil]
    exact hN
  · obtain ⟨f, hf, e, _⟩ := forget_mem hg
    rw [e]; exact h.pos f hf
  · obtain ⟨f, hf, e, ⟨rfl, _⟩ | rfl⟩ := forget_mem hg
    · exact h.by8 _ hf b hb
    · simp at hb; omega
theorem BudD.settle {d : Dsk} {m : Nat} (h : BudD d m) (n : Nat) : BudD (settleL d n) m := ⟨h.room, h.ops, h.next, Nat.zero_le _, Nat.le_trans (forget_sum _ _) h.len⟩
theorem DOl.dirSyncL {d : Dsk} (h : DOl d) : DOl (dirSyncL d).1 := by
  unfold Fx.dirSyncL
  simp only
  split
  · exact h.op
  · exact h.op.settle (Nat.le_refl _)
theorem BudD.dirSyncL {d : Dsk} {n : Nat} (h : BudD d n) : BudD (dirSyncL d).1 (n + 1) := by
  unfold Fx.dirSyncL
  simp only
  split
  · exact h.op
  · exact h.op.settle _
theorem DOl.crashL {d : Dsk} (h : DOl d) (x : Int) (kl : List Int) : DOl (crashL d x kl) := by
  have h1 := (h.cut kl).settle (n := limN d x) (by unfold limN; show _ ≤ d.chg.length; omega)
  exact ⟨⟨h1.ok.ids, h1.ok.next, h1.ok.sure, h1.ok.word, h1.ok.sw, h1.ok.cw, h1.ok.chg, h1.ok.now⟩, h1.pos, h1.cz, h1.by8, h1.cf, h1.cn⟩
theorem BudD.crashL {d : Dsk} {n : Nat} (h : BudD d n) (ho : DOl d) (x : Int) (kl : List Int) : BudD (crashL d x kl) n := by
  have h1 : BudD { d with files := cutL d.files kl } n := ⟨h.room, h.ops, h.next, h.chg, Nat.le_trans (cutL_sum _ _ ho.ok.sure) h.len⟩
  have h2 := h1.settle (limN d x)
  exact ⟨h2.room, h2.ops, h2.next, h2.chg, h2.len⟩
end Go.Proofs.Ytdaelblapgcljaa.Fx
