/- Package disk: files without a name are forgotten. -/
import Derived.Test.YtdaelblapgcljaaDkK
namespace Go.Proofs.Ytdaelblapgcljaa.Fx
open Go.ChangeShapes Go.WideShapes Go.ChangeAt Go.RowKit Go.Maps
set_option linter.unusedVariables false

def named (l : List Nam) (i : Nat) : Bool := l.any fun n => decide (n.f = i)
theorem named_iff {l : List Nam} {i : Nat} : named l i = true ↔ ∃ n ∈ l, n.f = i := by unfold named; simp
theorem named_perm {l m : List Nam} (h : l.Perm m) (i : Nat) : named l i = named m i := by
  apply Bool.eq_iff_iff.2
  rw [named_iff, named_iff]
  exact ⟨fun ⟨n, hn, e⟩ => ⟨n, h.mem_iff.1 hn, e⟩, fun ⟨n, hn, e⟩ => ⟨n, h.mem_iff.2 hn, e⟩⟩
theorem named_cons (n : Nam) (l : List Nam) (i : Nat) : named (n :: l) i = (decide (n.f = i) || named l i) := rfl
/-- what stays of a file, when those without a name are forgotten: itself; one byte that is not durable; nothing -/
def keepF (nm : Bool) (st : Bool) (f : Fil) : Option Fil := if nm then some f else if st && decide (f.sure < f.b.length) then some ⟨f.id, [0], 0⟩ else none
def forgetP (l : List Nam) (st : Fil → Bool) (fs : List Fil) : List Fil := fs.filterMap fun f => keepF (named l f.id) (st f) f
def forgetL (l : List Nam) (fs : List Fil) : List Fil := forgetP l (fun _ => true) fs
theorem keepF_id {nm st : Bool} {f g : Fil} (h : keepF nm st f = some g) : g.id = f.id := by
  unfold keepF at h
  split at h
  · cases h; rfl
  · split at h
    · cases h; rfl
    · cases h
theorem mem_forget {l : List Nam} {st : Fil → Bool} {fs : List Fil} {g : Fil} (h : g ∈ forgetP l st fs) : ∃ f ∈ fs, keepF (named l f.id) (st f) f = some g ∧ g.id = f.id := by
  obtain ⟨f, hf, e⟩ := List.mem_filterMap.1 h
  exact ⟨f, hf, e, keepF_id e⟩
theorem forget_ids {l : List Nam} {st : Fil → Bool} {fs : List Fil} (h : (fs.map (·.id)).Pairwise (· < ·)) : ((forgetP l st fs).map (·.id)).Pairwise (· < ·) := by
  induction fs with
  | nil => exact List.Pairwise.nil
  | cons f fs ih =>
    rw [List.map_cons, List.pairwise_cons] at h
    unfold forgetP
    rw [List.filterMap_cons]
    cases e : keepF (named l f.id) (st f) f with
    | none => exact ih h.2
    | some g =>
      rw [List.map_cons, List.pairwise_cons]
      refine ⟨fun i hi => ?_, ih h.2⟩
      obtain ⟨x, hx, rfl⟩ := List.mem_map.1 hi
      obtain ⟨y, hy, _, e2⟩ := mem_forget (l := l) (st := st) (fs := fs) hx
      rw [e2, keepF_id e]
      exact h.1 _ (List.mem_map.2 ⟨y, hy, rfl⟩)
theorem forget_len (l : List Nam) (st : Fil → Bool) (fs : List Fil) : (forgetP l st fs).length ≤ fs.length := List.length_filterMap_le _ _
theorem flm_len {bl : Nat → Nat} {D : DataW Unit} {fs : List Fil} {w : World} {b n : Nat} (h : FlM bl D fs) (hown : w.ownsMap Try.prog 3 ptrE b n D) (hd : (fs.map (·.id)).Pairwise (· < ·)) : w.ownsMap Try.prog 3 ptrE b fs.length D := by
  have h1 := map_tight hown
  rw [MH.size h (hown.canon lawI) (files_keys hd)] at h1
  exact h1
/-- a file and its number: there is no other one -/
theorem ids_one {fs : List Fil} (h : (fs.map (·.id)).Pairwise (· < ·)) {f g : Fil} (hf : f ∈ fs) (hg : g ∈ fs) (e : f.id = g.id) : f = g := by
  have h1 := file_of h hf
  have h2 := file_of h hg
  rw [e, h2] at h1
  injection h1 with h1
  exact h1.symm
/-- names, as far as they have come: the files that have one -/
theorem forget_step1 {l : List Nam} {left : Lit → Bool} {fs : List Fil} {n : Nam} {f : Fil} {bl : Nat → Nat} {D : DataW Unit} (hd : (fs.map (·.id)).Pairwise (· < ·)) (hp : (doneL keN (fun z => left z && !z.sameKey (keN n)) l).Perm (n :: doneL keN left l)) (hf : f ∈ fs) (e : f.id = n.f)
    (hm : FlM bl D (forgetP (doneL keN left l) (fun _ => false) fs)) : FlM bl (D.put (kk (n.f : Nat)) (.lit (.int .i64 (bl n.f : Nat)))) (forgetP (doneL keN (fun z => left z && !z.sameKey (keN n)) l) (fun _ => false) fs) := by
  have hx : ∀ (m : List Nam) (g : Fil), g ∈ forgetP m (fun _ => false) fs ↔ g ∈ fs ∧ named m g.id = true := by
    intro m g
    constructor
    · intro hg
      obtain ⟨y, hy, h1, h2⟩ := mem_forget hg
      unfold keepF at h1
      split at h1
      · rename_i h3
        cases h1
        exact ⟨hy, h3⟩
      · simp at h1
    · rintro ⟨hg, h1⟩
      refine List.mem_filterMap.2 ⟨g, hg, ?_⟩
      unfold keepF; rw [if_pos h1]
  have := MH.put hm (fun n => kk_key _) f (l' := forgetP (doneL keN (fun z => left z && !z.sameKey (keN n)) l) (fun _ => false) fs) (fun g hg => by
      obtain ⟨h1, h2⟩ := (hx _ _).1 hg
      rw [named_perm hp, named_cons] at h2
      by_cases e2 : g.id = f.id
      · exact .inl (ids_one hd h1 hf e2)
      · refine .inr ⟨(hx _ _).2 ⟨h1, ?_⟩, kk_ne (by show (g.id : Int) ≠ (f.id : Nat); omega)⟩
        have : decide (n.f = g.id) = false := decide_eq_false (by omega)
        rw [this] at h2
        simpa using h2) ((hx _ _).2 ⟨hf, by rw [named_perm hp, named_cons]; simp [e]⟩) (fun g hg _ => by
      obtain ⟨h1, h2⟩ := (hx _ _).1 hg
      refine (hx _ _).2 ⟨h1, ?_⟩
      rw [named_perm hp, named_cons, h2]; simp)
  rw [← e]
  exact this
end Go.Proofs.Ytdaelblapgcljaa.Fx
