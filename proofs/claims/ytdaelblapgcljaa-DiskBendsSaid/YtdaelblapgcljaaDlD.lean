/- Layer 17: DiskRenames, plainly. -/
import Derived.Test.YtdaelblapgcljaaDlA
namespace Go.Proofs.Ytdaelblapgcljaa.Fx
open Go.ChangeShapes Go.WideShapes Go.ChangeAt Go.RowKit Go.Maps Go.Sort
set_option linter.unusedVariables false

def sC : ByteArray := ⟨#[99]⟩
def g1 : Chg := ⟨ByteArray.empty, sA, 1⟩
def g2 : Chg := ⟨ByteArray.empty, sB, 2⟩
abbrev fl1 (a : List Nat) (s : Nat) : Fil := ⟨1, a, s⟩
abbrev fl2 (b : List Nat) (s : Nat) : Fil := ⟨2, b, s⟩
theorem rn1 : (createD (newD 1000) sA).1 = ⟨1000, 1, -1, -1, false, [fl1 [] 0], [⟨sA, 1⟩], [], [g1], 1⟩ := by rfl
theorem rn2 (a : List Nat) (h : a.length ≤ 500) : appendD ⟨1000, 1, -1, -1, false, [fl1 [] 0], [⟨sA, 1⟩], [], [g1], 1⟩ sA a = (⟨1000, 2, -1, -1, false, [fl1 a 0], [⟨sA, 1⟩], [], [g1], 1⟩, 0) := by
  rw [appendD_yes (n := ⟨sA, 1⟩) (by rfl) (by rfl) (by show ¬ (1000 : Int) < ((0 : Nat) : Int) + (a.length : Int); omega)]
  rfl
theorem rn3 (a : List Nat) : createD ⟨1000, 2, -1, -1, false, [fl1 a 0], [⟨sA, 1⟩], [], [g1], 1⟩ sB = (⟨1000, 3, -1, -1, false, [fl1 a 0, fl2 [] 0], [⟨sA, 1⟩, ⟨sB, 2⟩], [], [g1, g2], 2⟩, 0) := by rfl
theorem rn4 (a b : List Nat) (h : a.length + b.length ≤ 500) : appendD ⟨1000, 3, -1, -1, false, [fl1 a 0, fl2 [] 0], [⟨sA, 1⟩, ⟨sB, 2⟩], [], [g1, g2], 2⟩ sB b = (⟨1000, 4, -1, -1, false, [fl1 a 0, fl2 b 0], [⟨sA, 1⟩, ⟨sB, 2⟩], [], [g1, g2], 2⟩, 0) := by
  rw [appendD_yes (n := ⟨sB, 2⟩) (by rfl) (by rfl) (by show ¬ (1000 : Int) < ((a.length + (0 + 0) : Nat) : Int) + (b.length : Int); omega)]
  rfl
theorem rn5 (a b : List Nat) : syncD ⟨1000, 4, -1, -1, false, [fl1 a 0, fl2 b 0], [⟨sA, 1⟩, ⟨sB, 2⟩], [], [g1, g2], 2⟩ sA = (⟨1000, 5, -1, -1, false, [fl1 a a.length, fl2 b 0], [⟨sA, 1⟩, ⟨sB, 2⟩], [], [g1, g2], 2⟩, 0) := by rfl
theorem rn6 (a b : List Nat) : syncD ⟨1000, 5, -1, -1, false, [fl1 a a.length, fl2 b 0], [⟨sA, 1⟩, ⟨sB, 2⟩], [], [g1, g2], 2⟩ sB = (⟨1000, 6, -1, -1, false, [fl1 a a.length, fl2 b b.length], [⟨sA, 1⟩, ⟨sB, 2⟩], [], [g1, g2], 2⟩, 0) := by rfl
theorem rn7 (a b : List Nat) : dirSyncL ⟨1000, 6, -1, -1, false, [fl1 a a.length, fl2 b b.length], [⟨sA, 1⟩, ⟨sB, 2⟩], [], [g1, g2], 2⟩ = (⟨1000, 7, -1, -1, false, [fl1 a a.length, fl2 b b.length], [⟨sA, 1⟩, ⟨sB, 2⟩], [⟨sA, 1⟩, ⟨sB, 2⟩], [], 2⟩, 0) := by rfl
theorem rn8 (a b : List Nat) : renameD ⟨1000, 7, -1, -1, false, [fl1 a a.length, fl2 b b.length], [⟨sA, 1⟩, ⟨sB, 2⟩], [⟨sA, 1⟩, ⟨sB, 2⟩], [], 2⟩ sA sB = (⟨1000, 8, -1, -1, false, [fl1 a a.length, fl2 b b.length], [⟨sB, 1⟩], [⟨sA, 1⟩, ⟨sB, 2⟩], [⟨sA, sB, 1⟩], 2⟩, 0) := by
  rw [renameD_yes (n := ⟨sA, 1⟩) (by rfl) (by rfl) (by decide) (by decide)]
  rfl
theorem rn9 (a b : List Nat) : renameD ⟨1000, 8, -1, -1, false, [fl1 a a.length, fl2 b b.length], [⟨sB, 1⟩], [⟨sA, 1⟩, ⟨sB, 2⟩], [⟨sA, sB, 1⟩], 2⟩ sA sC = (⟨1000, 9, -1, -1, false, [fl1 a a.length, fl2 b b.length], [⟨sB, 1⟩], [⟨sA, 1⟩, ⟨sB, 2⟩], [⟨sA, sB, 1⟩], 2⟩, 4) :=
  renameD_no (c := 4) (.inr ⟨by rfl, rfl, by rfl⟩)
theorem rn10 (a b : List Nat) : readD ⟨1000, 9, -1, -1, false, [fl1 a a.length, fl2 b b.length], [⟨sB, 1⟩], [⟨sA, 1⟩, ⟨sB, 2⟩], [⟨sA, sB, 1⟩], 2⟩ sB = (⟨1000, 10, -1, -1, false, [fl1 a a.length, fl2 b b.length], [⟨sB, 1⟩], [⟨sA, 1⟩, ⟨sB, 2⟩], [⟨sA, sB, 1⟩], 2⟩, 0, a) := by
  rw [readD_yes (n := ⟨sB, 1⟩) (f := fl1 a a.length) (by rfl) (by rfl) (by rfl)]
  rfl
theorem size_rn (a b : List Nat) : sizeD ⟨1000, 8, -1, -1, false, [fl1 a a.length, fl2 b b.length], [⟨sB, 1⟩], [⟨sA, 1⟩, ⟨sB, 2⟩], [⟨sA, sB, 1⟩], 2⟩ = a.length := by
  show a.length + 0 = _
  rfl
/-- behind a crash that keeps the change of names -/
theorem rnC1 (a b : List Nat) {x : Int} (h : 0 < x) : crashL ⟨1000, 10, -1, -1, false, [fl1 a a.length, fl2 b b.length], [⟨sB, 1⟩], [⟨sA, 1⟩, ⟨sB, 2⟩], [⟨sA, sB, 1⟩], 2⟩ x [] = ⟨1000, 10, -1, -1, false, [fl1 a a.length], [⟨sB, 1⟩], [⟨sB, 1⟩], [], 2⟩ := by
  unfold crashL
  have : limN ⟨1000, 10, -1, -1, false, [fl1 a a.length, fl2 b b.length], [⟨sB, 1⟩], [⟨sA, 1⟩, ⟨sB, 2⟩], [⟨sA, sB, 1⟩], 2⟩ x = 1 := by
    show (min (max x 0) ((1 : Nat) : Int)).toNat = 1
    omega
  rw [this]
  have hc : cutL [fl1 a a.length, fl2 b b.length] [] = [fl1 a a.length, fl2 b b.length] := by
    show [cut1 (fl1 a a.length) [], cut1 (fl2 b b.length) (cutR (fl1 a a.length) [])] = _
    have e1 : cut1 (fl1 a a.length) [] = fl1 a a.length := by unfold cut1; rw [if_pos rfl]
    have e2 : ∀ ks, cut1 (fl2 b b.length) ks = fl2 b b.length := fun ks => by unfold cut1; rw [if_pos rfl]
    rw [e1, e2]
  show armD { settleL { (⟨1000, 10, -1, -1, false, [fl1 a a.length, fl2 b b.length], [⟨sB, 1⟩], [⟨sA, 1⟩, ⟨sB, 2⟩], [⟨sA, sB, 1⟩], 2⟩ : Dsk) with files := cutL [fl1 a a.length, fl2 b b.length] [] } 1 with off := false } (-1) (-1) = _
  rw [hc]
  have hf : forgetL [⟨sB, 1⟩] [fl1 a a.length, fl2 b b.length] = [fl1 a a.length] := by
    rw [forget_cons, forget_cons]
    have e1 : keepF (named [⟨sB, 1⟩] (fl1 a a.length).id) true (fl1 a a.length) = some (fl1 a a.length) := by rfl
    have e2 : keepF (named [⟨sB, 1⟩] (fl2 b b.length).id) true (fl2 b b.length) = none := by
      unfold keepF
      rw [if_neg (by show ¬ named [⟨sB, 1⟩] 2 = true; decide), if_neg (by simp)]
    rw [e1, e2]
    rfl
  show armD { (⟨1000, 10, -1, -1, false, forgetL [⟨sB, 1⟩] [fl1 a a.length, fl2 b b.length], [⟨sB, 1⟩], [⟨sB, 1⟩], [], 2⟩ : Dsk) with off := false } (-1) (-1) = _
  rw [hf]
  rfl
theorem rnC0 (a b : List Nat) {x : Int} (h : ¬ 0 < x) : crashL ⟨1000, 10, -1, -1, false, [fl1 a a.length, fl2 b b.length], [⟨sB, 1⟩], [⟨sA, 1⟩, ⟨sB, 2⟩], [⟨sA, sB, 1⟩], 2⟩ x [] = ⟨1000, 10, -1, -1, false, [fl1 a a.length, fl2 b b.length], [⟨sA, 1⟩, ⟨sB, 2⟩], [⟨sA, 1⟩, ⟨sB, 2⟩], [], 2⟩ := by
  unfold crashL
  have : limN ⟨1000, 10, -1, -1, false, [fl1 a a.length, fl2 b b.length], [⟨sB, 1⟩], [⟨sA, 1⟩, ⟨sB, 2⟩], [⟨sA, sB, 1⟩], 2⟩ x = 0 := by
    show (min (max x 0) ((1 : Nat) : Int)).toNat = 0
    omega
  rw [this]
  have hc : cutL [fl1 a a.length, fl2 b b.length] [] = [fl1 a a.length, fl2 b b.length] := by
    show [cut1 (fl1 a a.length) [], cut1 (fl2 b b.length) (cutR (fl1 a a.length) [])] = _
    have e1 : cut1 (fl1 a a.length) [] = fl1 a a.length := by unfold cut1; rw [if_pos rfl]
    have e2 : ∀ ks, cut1 (fl2 b b.length) ks = fl2 b b.length := fun ks => by unfold cut1; rw [if_pos rfl]
    rw [e1, e2]
  show armD { settleL { (⟨1000, 10, -1, -1, false, [fl1 a a.length, fl2 b b.length], [⟨sB, 1⟩], [⟨sA, 1⟩, ⟨sB, 2⟩], [⟨sA, sB, 1⟩], 2⟩ : Dsk) with files := cutL [fl1 a a.length, fl2 b b.length] [] } 0 with off := false } (-1) (-1) = _
  rw [hc]
  rfl
/-- what is read behind it -/
theorem rr1 (a : List Nat) : readD ⟨1000, 10, -1, -1, false, [fl1 a a.length], [⟨sB, 1⟩], [⟨sB, 1⟩], [], 2⟩ sB = (⟨1000, 11, -1, -1, false, [fl1 a a.length], [⟨sB, 1⟩], [⟨sB, 1⟩], [], 2⟩, 0, a) := by
  rw [readD_yes (n := ⟨sB, 1⟩) (f := fl1 a a.length) (by rfl) (by rfl) (by rfl)]
  rfl
theorem rr2 (a : List Nat) : readD ⟨1000, 11, -1, -1, false, [fl1 a a.length], [⟨sB, 1⟩], [⟨sB, 1⟩], [], 2⟩ sA = (⟨1000, 12, -1, -1, false, [fl1 a a.length], [⟨sB, 1⟩], [⟨sB, 1⟩], [], 2⟩, 4, []) := by rfl
theorem rr3 (a b : List Nat) : readD ⟨1000, 10, -1, -1, false, [fl1 a a.length, fl2 b b.length], [⟨sA, 1⟩, ⟨sB, 2⟩], [⟨sA, 1⟩, ⟨sB, 2⟩], [], 2⟩ sB = (⟨1000, 11, -1, -1, false, [fl1 a a.length, fl2 b b.length], [⟨sA, 1⟩, ⟨sB, 2⟩], [⟨sA, 1⟩, ⟨sB, 2⟩], [], 2⟩, 0, b) := by
  rw [readD_yes (n := ⟨sB, 2⟩) (f := fl2 b b.length) (by rfl) (by rfl) (by rfl)]
  rfl
theorem rr4 (a b : List Nat) : readD ⟨1000, 11, -1, -1, false, [fl1 a a.length, fl2 b b.length], [⟨sA, 1⟩, ⟨sB, 2⟩], [⟨sA, 1⟩, ⟨sB, 2⟩], [], 2⟩ sA = (⟨1000, 12, -1, -1, false, [fl1 a a.length, fl2 b b.length], [⟨sA, 1⟩, ⟨sB, 2⟩], [⟨sA, 1⟩, ⟨sB, 2⟩], [], 2⟩, 0, a) := by
  rw [readD_yes (n := ⟨sA, 1⟩) (f := fl1 a a.length) (by rfl) (by rfl) (by rfl)]
  rfl
end Go.Proofs.Ytdaelblapgcljaa.Fx
