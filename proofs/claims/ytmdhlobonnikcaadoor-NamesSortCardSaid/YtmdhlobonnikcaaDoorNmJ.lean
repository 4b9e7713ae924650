/- Numbers counted by a map; the names that a list makes: plain, and in memory. -/
import Derived.Test.YtmdhlobonnikcaaDoorNmI
namespace Go.Proofs.YtmdhlobonnikcaaDoor.Fx
open Go.ChangeShapes Go.WideShapes Go.ChangeAt Go.RowKit Go.Maps Go.Sort Go.Shelf
set_option linter.unusedVariables false

/-! ### plain -/
/-- the numbers at the even places, or at the odd ones -/
def parL (f : Nat → Int) (c : Nat) : Nat → List Int
  | 0 => []
  | n + 1 => parL f c n ++ (if n % 2 = c then [(mayN (f n) : Int)] else [])
/-- the names -/
def inL (f : Nat → Int) : Nat → List ByteArray
  | 0 => []
  | n + 1 => inL f n ++ [nmB (if n % 2 = 0 then 99 else 106) (mayN (f n))]
theorem inL_len (f : Nat → Int) : ∀ n, (inL f n).length = n
  | 0 => rfl
  | n + 1 => by show (inL f n ++ _).length = _; rw [List.length_append, inL_len f n]; rfl
theorem inL_num (f : Nat → Int) : ∀ n, numsN 99 (inL f n) = parL f 0 n ∧ numsN 106 (inL f n) = parL f 1 n
  | 0 => ⟨rfl, rfl⟩
  | n + 1 => by
    obtain ⟨h1, h2⟩ := inL_num f n
    have hm := mayN_le (f n)
    show numsN 99 (inL f n ++ _) = parL f 0 n ++ _ ∧ numsN 106 (inL f n ++ _) = parL f 1 n ++ _
    rw [numsN_app, numsN_app, h1, h2, numsN_one, numsN_one]
    by_cases e : n % 2 = 0
    · rw [if_pos e, if_pos e, if_neg (by omega), isN_yes ⟨.inl rfl, hm⟩, isN_other ⟨.inl rfl, hm⟩ (by omega)]
      exact ⟨rfl, rfl⟩
    · rw [if_neg e, if_neg e, if_pos (by omega), isN_yes ⟨.inr rfl, hm⟩, isN_other ⟨.inr rfl, hm⟩ (by omega)]
      exact ⟨rfl, rfl⟩
theorem par_len (f : Nat → Int) : ∀ n, (parL f 0 n).length + (parL f 1 n).length = n
  | 0 => rfl
  | n + 1 => by
    have h := par_len f n
    show (parL f 0 n ++ _).length + (parL f 1 n ++ _).length = _
    rw [List.length_append, List.length_append]
    by_cases e : n % 2 = 0
    · rw [if_pos e, if_neg (by omega)]; simp; omega
    · rw [if_neg e, if_pos (by omega)]; simp; omega
theorem par_may (f : Nat → Int) (c : Nat) : ∀ n x, x ∈ parL f c n → 0 ≤ x ∧ x ≤ 4611686018427387904
  | 0, x, h => by cases h
  | n + 1, x, h => by
    rcases List.mem_append.1 h with h | h
    · exact par_may f c n x h
    · split at h
      · rw [List.mem_singleton.1 h]
        have := mayN_le (f n)
        omega
      · cases h
theorem inL_size (f : Nat → Int) : ∀ n s, s ∈ inL f n → s.size ≤ maxLen
  | 0, s, h => by cases h
  | n + 1, s, h => by
    rcases List.mem_append.1 h with h | h
    · exact inL_size f n s h
    · rw [List.mem_singleton.1 h]; exact nm_max _ _
/-- how often a number stands in a list -/
def cntZ (l : List Int) (a : Int) : Int := (l.count a : Nat)
theorem cntZ_nil (a : Int) : cntZ [] a = 0 := rfl
theorem cntZ_app (l : List Int) (x a : Int) : cntZ (l ++ [x]) a = if a = x then cntZ l a + 1 else cntZ l a := by
  unfold cntZ
  rw [List.count_append, List.count_singleton]
  by_cases e : a = x
  · subst e; simp
  · rw [if_neg e, if_neg (by simpa using fun h => e h.symm)]; simp
theorem cntZ_perm {l m : List Int} (h : l.Perm m) (a : Int) : cntZ l a = cntZ m a := by unfold cntZ; rw [h.count_eq]
theorem cntZ_bd (l : List Int) (a : Int) : 0 ≤ cntZ l a ∧ cntZ l a ≤ (l.length : Nat) := by
  unfold cntZ
  have := List.count_le_length (a := a) (l := l)
  omega
theorem cntZ_take {l : List Int} {k : Nat} {x : Int} (h : l[k]? = some x) (a : Int) : cntZ (l.take (k + 1)) a = if a = x then cntZ (l.take k) a + 1 else cntZ (l.take k) a := by
  rw [List.take_add_one, h]
  exact cntZ_app _ _ _
/-! ### a map that counts -/
structure CM (D : DataW Unit) (F : Int → Int) : Prop where
  tidy : Tidy D
  has : ∀ kl, Maps.has D kl = true → ∃ a, kl = kk a
  at_ : ∀ a, D.atKey (kk a) (.lit (.int .i64 0)) = .lit (.int .i64 (F a))
theorem cm_nil : CM (.map []) (fun _ => 0) := ⟨tidy_empty, fun kl h => (by cases h), fun a => rfl⟩
theorem CM.put {D : DataW Unit} {F G : Int → Int} (h : CM D F) (a x : Int) (hG : ∀ b, G b = if b = a then x else F b) : CM (D.put (kk a) (.lit (.int .i64 x))) G := by
  refine ⟨h.tidy.put (kk_key a) _, fun kl hk => ?_, fun b => ?_⟩
  · by_cases e : kl = kk a
    · exact ⟨a, e⟩
    · rw [has_put_other e] at hk
      exact h.has kl hk
  · rw [hG b]
    by_cases e : b = a
    · subst e
      rw [if_pos rfl]
      exact atKey_put_same (isMap_of h.tidy) (kk_key b) _ _
    · rw [if_neg e, atKey_put_other (kk_ne e)]
      exact h.at_ b
theorem CM.congr {D : DataW Unit} {F G : Int → Int} (h : CM D F) (e : ∀ a, G a = F a) : CM D G := ⟨h.tidy, h.has, fun a => by rw [e a]; exact h.at_ a⟩
noncomputable abbrev pI : Value → Option (DataW Unit × List MemPlace) := plainElem (H := Unit) Tryd.prog 3
/-- a map in memory that counts, of no more than M entries -/
def CW (w : World) (m M : Nat) (F : Int → Int) : Prop := ∃ N D, w.ownsMap Tryd.prog 3 pI m N D ∧ N ≤ M ∧ CM D F
theorem CW.tn {X : Nat → Prop} {w v : World} {m M : Nat} {F : Int → Int} (h : CW w m M F) (k : Tn X w v) (hx : ¬ X m) : CW v m M F := by
  obtain ⟨N, D, h1, h2, h3⟩ := h
  exact ⟨N, D, map_tn h1 k hx, h2, h3⟩
theorem CW.lt {w : World} {m M : Nat} {F : Int → Int} (h : CW w m M F) : m < w.heap.size := by
  obtain ⟨N, D, h1, h2, h3⟩ := h
  exact h1.lt
theorem CW.not_own {w : World} {m M n g : Nat} {F : Int → Int} (h : CW w m M F) {base : Nat} {t : TypeId} {size : Nat} {x : Value} {xs : List Value} (hh : w.ownsRow base t size x n xs) (e : x.ownBlock = some g) : g ≠ m := by
  obtain ⟨N, D, h1, h2, h3⟩ := h
  exact map_own h1 hh e
theorem CW.not_has {w : World} {m M g : Nat} {F : Int → Int} (h : CW w m M F) {t : TypeId} {cs : Array Value} (hh : Has w g t cs) : g ≠ m := by
  obtain ⟨N, D, h1, h2, h3⟩ := h
  exact map_has h1 hh
theorem CW.congr {w : World} {m M M' : Nat} {F G : Int → Int} (h : CW w m M F) (e : ∀ a, G a = F a) (hM : M ≤ M') : CW w m M' G := by
  obtain ⟨N, D, h1, h2, h3⟩ := h
  exact ⟨N, D, h1, Nat.le_trans h2 hM, h3.congr e⟩
theorem CW.look {w : World} {m M : Nat} {F : Int → Int} (h : CW w m M F) {a : Int} (h1 : -9223372036854775808 ≤ a) (h2 : a ≤ 9223372036854775807) : (Instr.lookup 32 (.map (some m)) (.int .i64 a) false).run Tryd.prog w = .ok (.int .i64 (F a)) w := by
  obtain ⟨N, D, ho, h3, h4⟩ := h
  obtain ⟨c, hrun, hat, _⟩ := ho.lookup_int lawI Tryd.underlying32 Tryd.underlying3 (zeroI w) (keyI h1 h2)
  have h5 := h4.at_ a
  rw [hrun]
  have h6 := hat.symm.trans h5
  injection h6 with h6
  injection h6 with _ h6
  rw [h6]
theorem own_has {w : World} {base n g k : Nat} {t t' : TypeId} {x : Value} {xs : List Value} {size : Nat} {cs : Array Value} (h : w.ownsRow base t size x n xs) (hh : Has w g t' cs) (ht : t ≠ t') (e : x.ownBlock = some k) : k ≠ g := by
  rintro rfl
  obtain ⟨cur, hc⟩ := own_ty h e
  unfold Has at hh
  rw [hc] at hh
  cases hh
  exact ht rfl
end Go.Proofs.YtmdhlobonnikcaaDoor.Fx
