/- A disk, plainly: files, names, what is sure of them, and what a crash leaves (layer 17). No Go in sight. -/
import Derived.Test.YtmdhlobonnikcaaDoorPlain
namespace Go.Proofs.YtmdhlobonnikcaaDoor.Fx
set_option linter.unusedVariables false

/-- a file: its number, its bytes, how many of them are sure -/
structure Fil where
  id : Nat
  b : List Nat
  sure : Nat
structure Nam where
  s : ByteArray
  f : Nat
/-- a change of names: 'fr' is gone, 'to' is a file's (empty: none) -/
structure Chg where
  fr : ByteArray
  to : ByteArray
  f : Nat
structure Dsk where
  room : Int
  ops : Int
  fell : Int
  fails : Int
  off : Bool
  files : List Fil
  names : List Nam
  sure : List Nam
  chg : List Chg
  next : Nat
def newD (room : Int) : Dsk := ⟨max room 0, 0, -1, -1, false, [], [], [], [], 0⟩
def signD (c : Nat) : Prop := (97 ≤ c ∧ c ≤ 122) ∨ (48 ≤ c ∧ c ≤ 57) ∨ c = 45
instance (c : Nat) : Decidable (signD c) := by unfold signD; exact inferInstance
def nameD (s : ByteArray) : Prop := 0 < s.size ∧ s.size ≤ 24 ∧ ∀ c ∈ s.data.toList, signD c.toNat
instance (s : ByteArray) : Decidable (nameD s) := by unfold nameD; exact inferInstance
def lookD (l : List Nam) (s : ByteArray) : Option Nam := l.find? fun n => decide (n.s = s)
def fileD (l : List Fil) (i : Nat) : Option Fil := l.find? fun f => decide (f.id = i)
def outD (l : List Nam) (s : ByteArray) : List Nam := l.filter fun n => !decide (n.s = s)
def turnD (l : List Nam) (c : Chg) : List Nam :=
  let m := if c.fr.size = 0 then l else outD l c.fr
  if c.to.size = 0 then m else outD m c.to ++ [⟨c.to, c.f⟩]
/-- an operation begins: 8: down, 7: it failed, 0: go on -/
def opD (d : Dsk) : Dsk × Int :=
  let off := d.off || (decide (0 ≤ d.fell) && decide (d.fell ≤ d.ops))
  ({ d with ops := d.ops + 1, off := off }, if off then 8 else if 0 ≤ d.fails ∧ d.ops = d.fails then 7 else 0)
def sizeD (d : Dsk) : Nat := (d.names.map fun n => ((fileD d.files n.f).map fun f => f.b.length).getD 0).sum
def changeD (d : Dsk) (c : Chg) : Dsk := { d with names := turnD d.names c, chg := d.chg ++ [c] }
def putD (l : List Fil) (i : Nat) (g : Fil → Fil) : List Fil := l.map fun f => if f.id = i then g f else f
/-! ### the operations: what they leave and answer -/
def createD (d : Dsk) (a : ByteArray) : Dsk × Int :=
  let r := opD d
  if r.2 ≠ 0 then r else if ¬ nameD a then (r.1, 2) else if (lookD d.names a).isSome then (r.1, 5) else if 64 ≤ d.names.length then (r.1, 3)
  else (changeD { r.1 with next := d.next + 1, files := d.files ++ [⟨d.next + 1, [], 0⟩] } ⟨ByteArray.empty, a, d.next + 1⟩, 0)
def appendD (d : Dsk) (a : ByteArray) (b : List Nat) : Dsk × Int :=
  let r := opD d
  if r.2 ≠ 0 then r else match lookD d.names a with
  | none => (r.1, 4)
  | some n => if d.room < sizeD d + b.length then (r.1, 6) else ({ r.1 with files := putD d.files n.f fun f => { f with b := f.b ++ b } }, 0)
def syncD (d : Dsk) (a : ByteArray) : Dsk × Int :=
  let r := opD d
  if r.2 ≠ 0 then r else match lookD d.names a with
  | none => (r.1, 4)
  | some n => ({ r.1 with files := putD d.files n.f fun f => { f with sure := f.b.length } }, 0)
def dirSyncD (d : Dsk) : Dsk × Int :=
  let r := opD d
  if r.2 ≠ 0 then r else ({ r.1 with sure := d.names, chg := [] }, 0)
noncomputable def renameD (d : Dsk) (a b : ByteArray) : Dsk × Int :=
  let r := opD d
  if r.2 ≠ 0 then r else match lookD d.names a with
  | none => (r.1, 4)
  | some n => if ¬ nameD b then (r.1, 2) else if a = b then (r.1, 0) else (changeD r.1 ⟨a, b, n.f⟩, 0)
def removeD (d : Dsk) (a : ByteArray) : Dsk × Int :=
  let r := opD d
  if r.2 ≠ 0 then r else match lookD d.names a with
  | none => (r.1, 4)
  | some n => (changeD r.1 ⟨a, ByteArray.empty, 0⟩, 0)
def readD (d : Dsk) (a : ByteArray) : Dsk × Int × List Nat :=
  let r := opD d
  if r.2 ≠ 0 then (r.1, r.2, []) else match lookD d.names a with
  | none => (r.1, 4, [])
  | some n => (r.1, 0, ((fileD d.files n.f).map fun f => f.b).getD [])
def armD (d : Dsk) (down fail : Int) : Dsk :=
  { d with fell := if 0 ≤ down ∧ down ≤ 1099511627776 then d.ops + down else -1, fails := if 0 ≤ fail ∧ fail ≤ 1099511627776 then d.ops + fail else -1 }
/-! ### a crash -/
def cutD : List Fil → List Int → List Fil
  | [], _ => []
  | f :: l, k => if f.b.length = f.sure then f :: cutD l k else { f with b := f.b.take (f.sure + (max 0 (min (k.headD 0) ((f.b.length : Int) - f.sure))).toNat) } :: cutD l k.tail
def crashD (d : Dsk) (names : Int) (kept : List Int) : Dsk :=
  let l := (d.chg.take names.toNat).foldl turnD d.sure
  { d with files := ((cutD d.files kept).filter fun f => l.any fun n => decide (n.f = f.id)).map fun f => { f with sure := f.b.length }, names := l, sure := l, chg := [], off := false, fell := -1, fails := -1 }
/-! ### what holds always -/
structure NamOk (l : List Nam) (fs : List Fil) : Prop where
  names : (l.map (·.s)).Pairwise (· ≠ ·)
  files : (l.map (·.f)).Pairwise (· ≠ ·)
  there : ∀ n ∈ l, ∃ f ∈ fs, f.id = n.f
theorem out_sub (l : List Nam) (s : ByteArray) : (outD l s).Sublist l := List.filter_sublist
theorem NamOk.out {l : List Nam} {fs : List Fil} (h : NamOk l fs) (s : ByteArray) : NamOk (outD l s) fs :=
  ⟨h.names.sublist ((out_sub l s).map _), h.files.sublist ((out_sub l s).map _), fun n hn => h.there n ((out_sub l s).subset hn)⟩
theorem NamOk.add {l : List Nam} {fs : List Fil} (h : NamOk l fs) {s : ByteArray} {i : Nat} (hs : ∀ n ∈ l, n.s ≠ s) (hi : ∀ n ∈ l, n.f ≠ i) (hf : ∃ f ∈ fs, f.id = i) : NamOk (l ++ [⟨s, i⟩]) fs := by
  refine ⟨?_, ?_, ?_⟩
  · rw [List.map_append, List.pairwise_append]
    refine ⟨h.names, by simp, fun a ha b hb => ?_⟩
    obtain ⟨n, hn, rfl⟩ := List.mem_map.mp ha
    simp at hb
    rw [hb]; exact hs n hn
  · rw [List.map_append, List.pairwise_append]
    refine ⟨h.files, by simp, fun a ha b hb => ?_⟩
    obtain ⟨n, hn, rfl⟩ := List.mem_map.mp ha
    simp at hb
    rw [hb]; exact hi n hn
  · intro n hn
    rcases List.mem_append.mp hn with hn | hn
    · exact h.there n hn
    · simp at hn
      subst hn
      exact hf
theorem out_ne {l : List Nam} {s : ByteArray} {n : Nam} (h : n ∈ outD l s) : n ∈ l ∧ n.s ≠ s := by
  unfold outD at h
  rw [List.mem_filter] at h
  exact ⟨h.1, by simpa using h.2⟩
theorem look_mem {l : List Nam} {s : ByteArray} {n : Nam} (h : lookD l s = some n) : n ∈ l ∧ n.s = s := ⟨List.mem_of_find?_eq_some h, by simpa using List.find?_some h⟩
theorem look_none {l : List Nam} {s : ByteArray} (h : lookD l s = none) : ∀ n ∈ l, n.s ≠ s := fun n hn => by simpa using List.find?_eq_none.mp h n hn
/-- a name is another one's file's no more than its own -/
theorem NamOk.inj {l : List Nam} {fs : List Fil} (h : NamOk l fs) {m n : Nam} (hm : m ∈ l) (hn : n ∈ l) (e : m.f = n.f) : m = n := by
  obtain ⟨i, hi, ei⟩ := List.mem_iff_getElem.mp hm
  obtain ⟨j, hj, ej⟩ := List.mem_iff_getElem.mp hn
  have hp := List.pairwise_iff_getElem.mp h.files
  rcases Nat.lt_trichotomy i j with g | g | g
  · have := hp i j (by simpa using hi) (by simpa using hj) g
    simp only [List.getElem_map] at this
    rw [ei, ej] at this
    exact absurd e this
  · subst g; rw [← ei, ← ej]
  · have := hp j i (by simpa using hj) (by simpa using hi) g
    simp only [List.getElem_map] at this
    rw [ei, ej] at this
    exact absurd e.symm this
/-- renamed: the file goes with its name -/
theorem NamOk.renamed {l : List Nam} {fs : List Fil} (h : NamOk l fs) {a b : ByteArray} {n : Nam} (hl : lookD l a = some n) (ha : a.size ≠ 0) (hb : b.size ≠ 0) : NamOk (turnD l ⟨a, b, n.f⟩) fs := by
  obtain ⟨hn, es⟩ := look_mem hl
  unfold turnD
  simp only [if_neg ha, if_neg hb]
  refine ((h.out a).out b).add (fun m hm => (out_ne hm).2) (fun m hm e => ?_) (h.there n hn)
  have h1 := out_ne (out_ne hm).1
  have := h.inj h1.1 hn e
  subst this
  exact h1.2 es
theorem NamOk.removed {l : List Nam} {fs : List Fil} (h : NamOk l fs) (a : ByteArray) (ha : a.size ≠ 0) (i : Nat) : NamOk (turnD l ⟨a, ByteArray.empty, i⟩) fs := by
  unfold turnD
  simp only [if_neg ha]
  rw [if_pos (by rfl)]
  exact h.out a
theorem NamOk.created {l : List Nam} {fs : List Fil} (h : NamOk l fs) {a : ByteArray} {i : Nat} {x : Fil} (ha : a.size ≠ 0) (hi : ∀ f ∈ fs, f.id ≠ i) (hx : x.id = i) : NamOk (turnD l ⟨ByteArray.empty, a, i⟩) (fs ++ [x]) := by
  unfold turnD
  simp only [if_neg ha]
  rw [if_pos (by rfl)]
  have h1 : NamOk (outD l a) (fs ++ [x]) := ⟨(h.out a).names, (h.out a).files, fun n hn => by
    obtain ⟨f, hf, e⟩ := (h.out a).there n hn
    exact ⟨f, List.mem_append_left _ hf, e⟩⟩
  refine h1.add (fun m hm => (out_ne hm).2) (fun m hm e => ?_) ⟨x, by simp, hx⟩
  obtain ⟨f, hf, ef⟩ := h.there m (out_ne hm).1
  exact hi f hf (ef.trans e)
theorem NamOk.mono {l : List Nam} {fs gs : List Fil} (h : NamOk l fs) (k : ∀ f ∈ fs, ∃ g ∈ gs, g.id = f.id) : NamOk l gs :=
  ⟨h.names, h.files, fun n hn => by
    obtain ⟨f, hf, e⟩ := h.there n hn
    obtain ⟨g, hg, e'⟩ := k f hf
    exact ⟨g, hg, e'.trans e⟩⟩
structure DOk (d : Dsk) : Prop where
  ids : (d.files.map (·.id)).Pairwise (· < ·)
  next : ∀ f ∈ d.files, f.id ≤ d.next
  sure : ∀ f ∈ d.files, f.sure ≤ f.b.length
  word : ∀ n ∈ d.names, nameD n.s
  sw : ∀ n ∈ d.sure, nameD n.s
  cw : ∀ c ∈ d.chg, c.to.size = 0 ∨ nameD c.to
  chg : ∀ k, k ≤ d.chg.length → NamOk ((d.chg.take k).foldl turnD d.sure) d.files
  now : d.chg.foldl turnD d.sure = d.names
theorem DOk.names {d : Dsk} (h : DOk d) : NamOk d.names d.files := by
  have := h.chg d.chg.length (Nat.le_refl _)
  rwa [List.take_length, h.now] at this
theorem new_ok (room : Int) : DOk (newD room) := by
  refine ⟨by simp [newD], by simp [newD], by simp [newD], by simp [newD], by simp [newD], by simp [newD], fun k _ => ?_, rfl⟩
  simp only [newD, List.take_nil, List.foldl_nil]
  exact ⟨by simp, by simp, by simp⟩
theorem DOk.op {d : Dsk} (h : DOk d) : DOk (opD d).1 := ⟨h.ids, h.next, h.sure, h.word, h.sw, h.cw, h.chg, h.now⟩
theorem turn_words {l : List Nam} {c : Chg} (h : ∀ n ∈ l, nameD n.s) (hc : c.to.size = 0 ∨ nameD c.to) : ∀ n ∈ turnD l c, nameD n.s := by
  have h1 : ∀ n ∈ (if c.fr.size = 0 then l else outD l c.fr), nameD n.s := by
    intro n hn
    split at hn
    · exact h n hn
    · exact h n (out_ne hn).1
  intro n hn
  unfold turnD at hn
  simp only at hn
  split at hn
  · exact h1 n hn
  · rename_i hz
    rcases List.mem_append.mp hn with hn | hn
    · exact h1 n (out_ne hn).1
    · simp at hn; subst hn; exact hc.resolve_left hz
/-- names change once more -/
theorem DOk.change {d e : Dsk} (h : DOk d) {c : Chg} (ids : (e.files.map (·.id)).Pairwise (· < ·)) (next : ∀ f ∈ e.files, f.id ≤ e.next) (sure : ∀ f ∈ e.files, f.sure ≤ f.b.length)
    (hf : ∀ f ∈ d.files, ∃ g ∈ e.files, g.id = f.id) (hs : e.sure = d.sure) (hn : e.names = d.names) (hc : e.chg = d.chg) (hk : NamOk (turnD d.names c) e.files) (hw : c.to.size = 0 ∨ nameD c.to) : DOk (changeD e c) := by
  refine ⟨ids, next, sure, ?_, ?_, ?_, fun k hk' => ?_, ?_⟩
  · show ∀ n ∈ turnD e.names c, nameD n.s
    rw [hn]; exact turn_words h.word hw
  · show ∀ n ∈ e.sure, nameD n.s
    rw [hs]; exact h.sw
  · show ∀ x ∈ e.chg ++ [c], x.to.size = 0 ∨ nameD x.to
    rw [hc]
    intro x hx
    rcases List.mem_append.mp hx with hx | hx
    · exact h.cw x hx
    · simp at hx; subst hx; exact hw
  · show NamOk (((e.chg ++ [c]).take k).foldl turnD e.sure) e.files
    rw [hc, hs]
    rcases Nat.lt_or_ge d.chg.length k with g | g
    · rw [List.take_of_length_le (by simp; omega), List.foldl_append, h.now]
      exact hk
    · rw [List.take_append_of_le_length g]
      exact (h.chg k g).mono hf
  · show (e.chg ++ [c]).foldl turnD e.sure = turnD e.names c
    rw [hc, hs, hn, List.foldl_append, h.now]
    rfl
theorem nameD_size {s : ByteArray} (h : nameD s) : s.size ≠ 0 := by have := h.1; omega
theorem DOk.create {d : Dsk} (h : DOk d) (a : ByteArray) : DOk (createD d a).1 := by
  unfold createD
  simp only
  repeat' split
  all_goals try exact h.op
  rename_i ha _ _
  have ha : nameD a := by simpa using ha
  refine DOk.change (d := d) h ?_ ?_ ?_ (fun f hf => ⟨f, List.mem_append_left _ hf, rfl⟩) rfl rfl rfl ?_ (.inr ha)
  · show ((d.files ++ [_]).map _).Pairwise _
    rw [List.map_append, List.pairwise_append]
    refine ⟨h.ids, by simp, fun x hx y hy => ?_⟩
    obtain ⟨f, hf, rfl⟩ := List.mem_map.mp hx
    simp at hy
    have := h.next f hf
    omega
  · intro f hf
    rcases List.mem_append.mp hf with hf | hf
    · have := h.next f hf
      show f.id ≤ d.next + 1
      omega
    · simp at hf; subst hf; exact Nat.le_refl _
  · intro f hf
    rcases List.mem_append.mp hf with hf | hf
    · exact h.sure f hf
    · simp at hf; subst hf; exact Nat.le_refl _
  · exact h.names.created (nameD_size ha) (fun f hf e => by have := h.next f hf; omega) rfl
theorem put_ids (l : List Fil) (i : Nat) (g : Fil → Fil) (hg : ∀ f, (g f).id = f.id) : (putD l i g).map (·.id) = l.map (·.id) := by
  unfold putD
  rw [List.map_map]
  refine List.map_congr_left fun f _ => ?_
  show (if f.id = i then g f else f).id = f.id
  split
  · exact hg f
  · rfl
/-- a file is put in another one's stead -/
theorem DOk.put {d e : Dsk} (h : DOk d) {i : Nat} {g : Fil → Fil} (hg : ∀ f, (g f).id = f.id) (hs : ∀ f, f.sure ≤ f.b.length → (g f).sure ≤ (g f).b.length) (he : e.files = putD d.files i g) (h1 : e.next = d.next) (h2 : e.names = d.names) (h3 : e.sure = d.sure) (h4 : e.chg = d.chg) : DOk e := by
  have hm : ∀ f ∈ putD d.files i g, ∃ x ∈ d.files, f = if x.id = i then g x else x := fun f hf => by
    obtain ⟨x, hx, rfl⟩ := List.mem_map.mp hf
    exact ⟨x, hx, rfl⟩
  refine ⟨?_, ?_, ?_, ?_, ?_, ?_, ?_, ?_⟩
  · rw [he, put_ids _ _ _ hg]; exact h.ids
  · intro f hf
    rw [he] at hf
    obtain ⟨x, hx, rfl⟩ := hm f hf
    rw [h1]
    split
    · rw [hg]; exact h.next x hx
    · exact h.next x hx
  · intro f hf
    rw [he] at hf
    obtain ⟨x, hx, rfl⟩ := hm f hf
    split
    · exact hs x (h.sure x hx)
    · exact h.sure x hx
  · rw [h2]; exact h.word
  · rw [h3]; exact h.sw
  · rw [h4]; exact h.cw
  · rw [h3, h4, he]
    intro k hk
    refine (h.chg k hk).mono fun f hf => ⟨if f.id = i then g f else f, List.mem_map.mpr ⟨f, hf, rfl⟩, ?_⟩
    split
    · exact hg f
    · rfl
  · rw [h3, h4, h2]; exact h.now
theorem DOk.append {d : Dsk} (h : DOk d) (a : ByteArray) (b : List Nat) : DOk (appendD d a b).1 := by
  unfold appendD
  simp only
  repeat' split
  all_goals try exact h.op
  exact h.put (g := fun f => { f with b := f.b ++ b }) (fun _ => rfl) (fun f hf => by simp only [List.length_append]; omega) rfl rfl rfl rfl rfl
theorem DOk.sync {d : Dsk} (h : DOk d) (a : ByteArray) : DOk (syncD d a).1 := by
  unfold syncD
  simp only
  repeat' split
  all_goals try exact h.op
  exact h.put (g := fun f => { f with sure := f.b.length }) (fun _ => rfl) (fun f hf => Nat.le_refl _) rfl rfl rfl rfl rfl
theorem DOk.dirSync {d : Dsk} (h : DOk d) : DOk (dirSyncD d).1 := by
  unfold dirSyncD
  simp only
  split
  · exact h.op
  · refine ⟨h.ids, h.next, h.sure, h.word, h.word, fun c hc => (by cases hc), fun k _ => ?_, rfl⟩
    show NamOk ((([] : List Chg).take k).foldl turnD d.names) d.files
    rw [List.take_nil]
    exact h.names
theorem DOk.rename {d : Dsk} (h : DOk d) (a b : ByteArray) : DOk (renameD d a b).1 := by
  unfold renameD
  simp only
  repeat' split
  all_goals try exact h.op
  rename_i n hl hb hne
  have hb : nameD b := by simpa using hb
  have ha : nameD a := by have := look_mem hl; rw [← this.2]; exact h.word n this.1
  exact DOk.change (d := d) h h.ids h.next h.sure (fun f hf => ⟨f, hf, rfl⟩) rfl rfl rfl (h.names.renamed hl (nameD_size ha) (nameD_size hb)) (.inr hb)
theorem DOk.remove {d : Dsk} (h : DOk d) (a : ByteArray) : DOk (removeD d a).1 := by
  unfold removeD
  simp only
  repeat' split
  all_goals try exact h.op
  rename_i n hl
  have ha : nameD a := by have := look_mem hl; rw [← this.2]; exact h.word n this.1
  exact DOk.change (d := d) h h.ids h.next h.sure (fun f hf => ⟨f, hf, rfl⟩) rfl rfl rfl (h.names.removed a (nameD_size ha) 0) (.inl rfl)
theorem DOk.read {d : Dsk} (h : DOk d) (a : ByteArray) : DOk (readD d a).1 := by
  unfold readD
  simp only
  repeat' split
  all_goals exact h.op
theorem DOk.arm {d : Dsk} (h : DOk d) (x y : Int) : DOk (armD d x y) := ⟨h.ids, h.next, h.sure, h.word, h.sw, h.cw, h.chg, h.now⟩
theorem cut_ids : ∀ (l : List Fil) (k : List Int), (cutD l k).map (·.id) = l.map (·.id)
  | [], _ => rfl
  | f :: l, k => by
    unfold cutD
    split
    · simp only [List.map_cons, cut_ids l k]
    · simp only [List.map_cons, cut_ids l k.tail]
theorem fold_words : ∀ (cs : List Chg) (l : List Nam), (∀ n ∈ l, nameD n.s) → (∀ c ∈ cs, c.to.size = 0 ∨ nameD c.to) → ∀ n ∈ cs.foldl turnD l, nameD n.s
  | [], l, h, _ => h
  | c :: cs, l, h, hc => fold_words cs (turnD l c) (turn_words h (hc c (by simp))) fun x hx => hc x (by simp [hx])
/-- behind a crash: names as they were behind so many changes, files that have one, all sure -/
theorem DOk.crash {d : Dsk} (h : DOk d) (m : Int) (kept : List Int) : DOk (crashD d m kept) := by
  have hl : NamOk ((d.chg.take m.toNat).foldl turnD d.sure) d.files := by
    rcases Nat.lt_or_ge d.chg.length m.toNat with g | g
    · have := h.chg d.chg.length (Nat.le_refl _)
      rw [List.take_length] at this
      rw [List.take_of_length_le (by omega)]
      exact this
    · exact h.chg _ g
  have hw : ∀ n ∈ (d.chg.take m.toNat).foldl turnD d.sure, nameD n.s := fold_words _ _ h.sw fun c hc => h.cw c (List.mem_of_mem_take hc)
  have hid : ∀ f ∈ (crashD d m kept).files, ∃ x ∈ d.files, x.id = f.id := by
    intro f hf
    obtain ⟨g, hg, rfl⟩ := List.mem_map.mp hf
    have hg := (List.mem_filter.mp hg).1
    have : g.id ∈ (cutD d.files kept).map (·.id) := List.mem_map.mpr ⟨g, hg, rfl⟩
    rw [cut_ids] at this
    obtain ⟨x, hx, e⟩ := List.mem_map.mp this
    exact ⟨x, hx, e⟩
  have hn : NamOk ((d.chg.take m.toNat).foldl turnD d.sure) (crashD d m kept).files := by
    refine ⟨hl.names, hl.files, fun n hn => ?_⟩
    obtain ⟨f, hf, e⟩ := hl.there n hn
    have : f.id ∈ (cutD d.files kept).map (·.id) := by rw [cut_ids]; exact List.mem_map.mpr ⟨f, hf, rfl⟩
    obtain ⟨g, hg, eg⟩ := List.mem_map.mp this
    refine ⟨{ g with sure := g.b.length }, List.mem_map.mpr ⟨g, List.mem_filter.mpr ⟨hg, ?_⟩, rfl⟩, eg.trans e⟩
    rw [List.any_eq_true]
    exact ⟨n, hn, by simpa using (eg.trans e).symm⟩
  refine ⟨?_, ?_, ?_, hw, hw, fun c hc => (by cases hc), fun k _ => ?_, rfl⟩
  · show ((((cutD d.files kept).filter _).map _).map _).Pairwise _
    rw [List.map_map]
    have : (((cutD d.files kept).filter fun f => ((d.chg.take m.toNat).foldl turnD d.sure).any fun n => decide (n.f = f.id)).map (·.id)).Sublist (d.files.map (·.id)) := by
      rw [← cut_ids d.files kept]
      exact List.filter_sublist.map _
    exact h.ids.sublist this
  · intro f hf
    obtain ⟨x, hx, e⟩ := hid f hf
    rw [← e]
    exact h.next x hx
  · intro f hf
    obtain ⟨g, _, rfl⟩ := List.mem_map.mp hf
    exact Nat.le_refl _
  · show NamOk ((([] : List Chg).take k).foldl turnD _) _
    rw [List.take_nil]
    exact hn
/-! ### how much is there -/
def lensD (l : List Fil) : Nat := (l.map fun f => f.b.length).sum
theorem sum_one (i c : Nat) (g : Nam → Nat) : ∀ l : List Nam, (l.map (·.f)).Pairwise (· ≠ ·) → (l.map fun n => if i = n.f then c else g n).sum ≤ c + (l.map g).sum
  | [], _ => by simp
  | n :: l, h => by
    rw [List.map_cons] at h
    have h' := List.pairwise_cons.mp h
    have ih := sum_one i c g l h'.2
    simp only [List.map_cons, List.sum_cons]
    split
    · rename_i e
      have q : (l.map fun n => if i = n.f then c else g n) = l.map g := List.map_congr_left fun m hm => by
        rw [if_neg]
        intro e'
        exact h'.1 m.f (List.mem_map.mpr ⟨m, hm, rfl⟩) (e.symm.trans e')
      rw [q]; omega
    · omega
theorem size_sum : ∀ (fs : List Fil) (l : List Nam), (l.map (·.f)).Pairwise (· ≠ ·) → (l.map fun n => ((fileD fs n.f).map fun f => f.b.length).getD 0).sum ≤ lensD fs
  | [], l, _ => by
    have : ∀ l : List Nam, (l.map fun n => ((fileD [] n.f).map fun f => f.b.length).getD 0).sum = 0 := by
      intro l
      induction l with
      | nil => rfl
      | cons n l ih => simp only [List.map_cons, List.sum_cons, ih]; rfl
    rw [this]
    exact Nat.zero_le _
  | f :: fs, l, h => by
    have e : (fun n : Nam => ((fileD (f :: fs) n.f).map fun f => f.b.length).getD 0) = fun n => if f.id = n.f then f.b.length else ((fileD fs n.f).map fun f => f.b.length).getD 0 := by
      funext n
      unfold fileD
      rw [List.find?_cons]
      by_cases q : f.id = n.f <;> simp [q]
    rw [e]
    have h1 := sum_one f.id f.b.length (fun n => ((fileD fs n.f).map fun f => f.b.length).getD 0) l h
    have h2 := size_sum fs l h
    unfold lensD at h2 ⊢
    simp only [List.map_cons, List.sum_cons]
    omega
/-- all that names reach is no more than what is there -/
theorem DOk.size {d : Dsk} (h : DOk d) : sizeD d ≤ lensD d.files := size_sum _ _ h.names.files
theorem put_sum (i : Nat) (b : List Nat) : ∀ l : List Fil, (l.map (·.id)).Pairwise (· < ·) → lensD (putD l i fun f => { f with b := f.b ++ b }) ≤ lensD l + b.length
  | [], _ => by simp [lensD, putD]
  | f :: l, h => by
    rw [List.map_cons] at h
    have h' := List.pairwise_cons.mp h
    by_cases e : f.id = i
    · have q : putD l i (fun f => { f with b := f.b ++ b }) = l := by
        unfold putD
        have : l.map (fun f => if f.id = i then { f with b := f.b ++ b } else f) = l.map id := List.map_congr_left fun m hm => by
          have := h'.1 m.id (List.mem_map.mpr ⟨m, hm, rfl⟩)
          rw [if_neg (by omega)]; rfl
        rw [this, List.map_id]
      have : putD (f :: l) i (fun f => { f with b := f.b ++ b }) = { f with b := f.b ++ b } :: putD l i (fun f => { f with b := f.b ++ b }) := by unfold putD; rw [List.map_cons, if_pos e]
      rw [this, q]
      simp only [lensD, List.map_cons, List.sum_cons, List.length_append]
      omega
    · have : putD (f :: l) i (fun f => { f with b := f.b ++ b }) = f :: putD l i (fun f => { f with b := f.b ++ b }) := by unfold putD; rw [List.map_cons, if_neg e]
      have ih := put_sum i b l h'.2
      rw [this]
      simp only [lensD, List.map_cons, List.sum_cons] at ih ⊢
      omega
theorem cut_sum : ∀ (l : List Fil) (k : List Int), lensD (cutD l k) ≤ lensD l
  | [], _ => Nat.le_refl _
  | f :: l, k => by
    unfold cutD
    split
    · have := cut_sum l k
      simp only [lensD, List.map_cons, List.sum_cons] at this ⊢
      omega
    · have := cut_sum l k.tail
      simp only [lensD, List.map_cons, List.sum_cons, List.length_take] at this ⊢
      omega
theorem filter_sum (p : Fil → Bool) : ∀ l : List Fil, lensD (l.filter p) ≤ lensD l
  | [] => Nat.le_refl _
  | f :: l => by
    have ih := filter_sum p l
    rw [List.filter_cons]
    split <;> simp only [lensD, List.map_cons, List.sum_cons] at ih ⊢ <;> omega
theorem crash_sum (d : Dsk) (m : Int) (kept : List Int) : lensD (crashD d m kept).files ≤ lensD d.files := by
  refine Nat.le_trans ?_ (Nat.le_trans (filter_sum (fun f => ((d.chg.take m.toNat).foldl turnD d.sure).any fun n => decide (n.f = f.id)) (cutD d.files kept)) (cut_sum d.files kept))
  unfold crashD lensD
  simp only [List.map_map]
  exact Nat.le_refl _
/-- a file's bytes are replaced by as many (Bend) -/
def bendD (d : Dsk) (a : ByteArray) (g : List Nat → List Nat) : Dsk × Bool :=
  match lookD d.names a with
  | none => (d, false)
  | some n => ({ d with files := putD d.files n.f fun f => { f with b := g f.b } }, true)
theorem DOk.bend {d : Dsk} (h : DOk d) (a : ByteArray) {g : List Nat → List Nat} (hg : ∀ b, (g b).length = b.length) : DOk (bendD d a g).1 := by
  unfold bendD
  split
  · exact h
  · exact h.put (g := fun f => { f with b := g f.b }) (fun _ => rfl) (fun f hf => by simp only [hg]; exact hf) rfl rfl rfl rfl rfl
/-- a file is found by its number -/
theorem file_of {l : List Fil} (h : (l.map (·.id)).Pairwise (· < ·)) : ∀ {f : Fil}, f ∈ l → fileD l f.id = some f := by
  induction l with
  | nil => intro f hf; cases hf
  | cons x l ih =>
    intro f hf
    rw [List.map_cons] at h
    have h' := List.pairwise_cons.mp h
    unfold fileD
    rw [List.find?_cons]
    rcases List.mem_cons.mp hf with rfl | hf
    · simp
    · have := h'.1 f.id (List.mem_map.mpr ⟨f, hf, rfl⟩)
      have hne : ¬ x.id = f.id := by omega
      simp only [hne, decide_false]
      exact ih h'.2 hf
theorem DOk.file {d : Dsk} (h : DOk d) {a : ByteArray} {n : Nam} (hl : lookD d.names a = some n) : ∃ f ∈ d.files, fileD d.files n.f = some f ∧ f.id = n.f := by
  obtain ⟨f, hf, e⟩ := h.names.there n (look_mem hl).1
  exact ⟨f, hf, by rw [← e]; exact file_of h.ids hf, e⟩
end Go.Proofs.YtmdhlobonnikcaaDoor.Fx
