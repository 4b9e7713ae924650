/- Package disk: forget. -/
import Derived.Test.YtdaelblapgcljaaDkL
namespace Go.Proofs.Ytdaelblapgcljaa.Fx
open Go.ChangeShapes Go.WideShapes Go.ChangeAt Go.RowKit Go.Maps
set_option linter.unusedVariables false

theorem forget_congr {l : List Nam} {st st' : Fil → Bool} {fs : List Fil} (h : ∀ f ∈ fs, keepF (named l f.id) (st f) f = keepF (named l f.id) (st' f) f) : forgetP l st fs = forgetP l st' fs := by
  unfold forgetP
  induction fs with
  | nil => rfl
  | cons f fs ih =>
    rw [List.filterMap_cons, List.filterMap_cons, h f (by simp), ih fun g hg => h g (by simp [hg])]
theorem forget_file {l : List Nam} {st : Fil → Bool} {fs : List Fil} (hd : (fs.map (·.id)).Pairwise (· < ·)) {f : Fil} (hf : f ∈ fs) : fileD (forgetP l st fs) f.id = keepF (named l f.id) (st f) f := by
  cases e : keepF (named l f.id) (st f) f with
  | some g =>
    rw [← keepF_id e]
    exact file_of (forget_ids hd) (List.mem_filterMap.2 ⟨f, hf, e⟩)
  | none =>
    refine List.find?_eq_none.mpr fun g hg => ?_
    obtain ⟨y, hy, h1, h2⟩ := mem_forget hg
    have : y.id ≠ f.id := fun e2 => by
      have := ids_one hd hy hf e2
      subst this
      rw [e] at h1; cases h1
    simp; omega
/-- what is a stub -/
def isStub (l : List Nam) (f : Fil) : Bool := !named l f.id && decide (f.sure < f.b.length)
/-- files, one more come -/
theorem forget_step2 {l : List Nam} {left : Lit → Bool} {fs : List Fil} {f : Fil} {bl : Nat → Nat} {D : DataW Unit} {g : Nat} (hd : (fs.map (·.id)).Pairwise (· < ·)) (hf : f ∈ fs) (hs : isStub l f = true) (hm : FlM bl D (forgetP l (fun x => !left (keF x)) fs)) (hl : left (keF f) = true) :
    FlM (fun j => if j = f.id then g else bl j) (D.put (kk (f.id : Nat)) (.lit (.int .i64 (g : Nat)))) (forgetP l (fun x => !(left (keF x) && !(keF x).sameKey (keF f))) fs) := by
  unfold isStub at hs
  simp only [Bool.and_eq_true, Bool.not_eq_true', decide_eq_true_eq] at hs
  have hk : keepF (named l f.id) true f = some ⟨f.id, [0], 0⟩ := by
    unfold keepF; rw [if_neg (by rw [hs.1]; simp), if_pos (by simp [hs.2])]
  have hm' : FlM (fun j => if j = f.id then g else bl j) D (forgetP l (fun x => !left (keF x)) fs) := hm.el_congr fun x hx => by
    obtain ⟨y, hy, h1, h2⟩ := mem_forget hx
    have : x.id ≠ f.id := fun e => by
      have := ids_one hd hy hf (h2.symm.trans e)
      subst this
      rw [hl] at h1
      unfold keepF at h1
      rw [if_neg (by rw [hs.1]; simp), if_neg (by simp)] at h1
      cases h1
    show DataW.lit (.int .i64 (((if x.id = f.id then g else bl x.id) : Nat) : Int)) = DataW.lit _
    rw [if_neg this]
  have same : ∀ x ∈ fs, x.id ≠ f.id → (!(left (keF x) && !(keF x).sameKey (keF f))) = !left (keF x) := fun x hx hne => by
    rw [sameKey_ne (kk_ne (by omega))]; simp
  have self : (!(left (keF f) && !(keF f).sameKey (keF f))) = true := by rw [WideAt.sameKey_self (kk_key _)]; simp
  have := MH.put hm' (fun n => kk_key _) (⟨f.id, [0], 0⟩ : Fil) (l' := forgetP l (fun x => !(left (keF x) && !(keF x).sameKey (keF f))) fs) (fun x hx => by
    obtain ⟨y, hy, h1, h2⟩ := mem_forget hx
    by_cases e : y.id = f.id
    · have := ids_one hd hy hf e
      subst this
      rw [self, hk] at h1
      cases h1
      exact .inl rfl
    · rw [same y hy e] at h1
      exact .inr ⟨List.mem_filterMap.2 ⟨y, hy, h1⟩, kk_ne (by show (x.id : Int) ≠ (f.id : Nat); omega)⟩) (List.mem_filterMap.2 ⟨f, hf, by show keepF (named l f.id) (!(left (keF f) && !(keF f).sameKey (keF f))) f = _; rw [self]; exact hk⟩) (fun x hx hne => by
    obtain ⟨y, hy, h1, h2⟩ := mem_forget hx
    have e : y.id ≠ f.id := fun e => hne (by show kk _ = kk _; rw [h2, e])
    exact List.mem_filterMap.2 ⟨y, hy, by show keepF (named l y.id) (!(left (keF y) && !(keF y).sameKey (keF f))) y = _; rw [same y hy e]; exact h1⟩)
  have e5 : elF (fun j => if j = f.id then g else bl j) (⟨f.id, [0], 0⟩ : Fil) = .lit (.int .i64 (g : Nat)) := by show DataW.lit (.int .i64 (((if f.id = f.id then g else bl f.id) : Nat) : Int)) = _; rw [if_pos rfl]
  rw [e5] at this
  exact this
/-- files, one more come that isn't a stub -/
theorem forget_step3 {l : List Nam} {left : Lit → Bool} {fs : List Fil} {f : Fil} (hd : (fs.map (·.id)).Pairwise (· < ·)) (hf : f ∈ fs) (hs : isStub l f = false) :
    forgetP l (fun x => !(left (keF x) && !(keF x).sameKey (keF f))) fs = forgetP l (fun x => !left (keF x)) fs := by
  refine forget_congr fun x hx => ?_
  by_cases e : x.id = f.id
  · have := ids_one hd hx hf e
    subst this
    unfold isStub at hs
    unfold keepF
    cases h : named l x.id with
    | true => rfl
    | false =>
      rw [h] at hs
      simp only [Bool.not_false, Bool.true_and] at hs
      simp [hs]
  · rw [sameKey_ne (kk_ne (by omega))]; simp
structure StubAt (w : World) (B : Nat) (g : Nat) : Prop where
  lo : B + 1 < g
  row : Has w g 86 #[.slice (some ⟨g - 1, 0, none⟩) 1 1, .int .i64 0]
  by_ : Has w (g - 1) 5 #[.int .u8 0]
theorem StubAt.tn {w v : World} {X : Nat → Prop} {B g : Nat} (h : StubAt w B g) (t : Tn X w v) (h1 : ¬ X g) (h2 : ¬ X (g - 1)) : StubAt v B g := ⟨h.lo, h.row.tn t h1, h.by_.tn t h2⟩
/-- the stubs that have come -/
structure Stubs (w : World) (B : Nat) (l : List Nam) (fs : List Fil) (left : Lit → Bool) (bl : Nat → Nat) : Prop where
  at_ : ∀ f ∈ fs, isStub l f = true → left (keF f) = false → StubAt w B (bl f.id)
  ne : ∀ f ∈ fs, ∀ f' ∈ fs, isStub l f = true → isStub l f' = true → left (keF f) = false → left (keF f') = false → bl f.id = bl f'.id → f.id = f'.id
end Go.Proofs.Ytdaelblapgcljaa.Fx
