/- Package disk: the numbers of the files, in order; DirSync. -/
import Derived.Test.YtdaelblapgcljaaDkR
import Derived.Test.YtdaelblapgcljaaLayE
import Derived.Lib.SlKeysI
namespace Go.Proofs.Ytdaelblapgcljaa.Fx
open Go.ChangeShapes Go.WideShapes Go.ChangeAt Go.RowKit Go.Maps Go.Sort Go.Shelf
set_option linter.unusedVariables false

def idsZ (l : List Fil) : List Int := l.map fun f => (f.id : Int)
theorem idsZ_up {l : List Fil} (h : (l.map (·.id)).Pairwise (· < ·)) : (idsZ l).Pairwise (· < ·) := by
  unfold idsZ
  rw [List.pairwise_map] at h ⊢
  exact h.imp fun hh => by omega
theorem flm_keys {bl : Nat → Nat} {D : DataW Unit} {l : List Fil} {w : World} {b n : Nat} (h : FlM bl D l) (hown : w.ownsMap Try.prog 3 ptrE b n D) (hd : (l.map (·.id)).Pairwise (· < ·)) : (idsZ l).Perm (intKeys D) := by
  have h0 := h.has
  obtain ⟨es, rfl, hr, hk⟩ := hown.canon lawI
  refine perm_intKeys (apart_of_rising hr) (fun p hp => ?_) ((idsZ_up hd).imp fun hh => by omega) (fun x => ?_)
  · have h1 : Maps.has (.map es) p.1 = true := List.any_eq_true.2 ⟨p, hp, WideAt.sameKey_self (hk p hp)⟩
    obtain ⟨f, _, e⟩ := (h0 _).1 h1
    exact ⟨_, e⟩
  · rw [h0]
    unfold idsZ
    rw [List.mem_map]
    constructor
    · rintro ⟨f, hf, rfl⟩; exact ⟨f, hf, rfl⟩
    · rintro ⟨f, hf, e⟩
      exact ⟨f, hf, by injection e with _ e; exact e.symm⟩
theorem sorted_ids {l : List Int} (h : l.Pairwise (· < ·)) {ss : List Int} (hp : ss.Perm l) : ss.mergeSort (fun x y => decide (x ≤ y)) = l := by
  have h1 : (ss.mergeSort (fun x y => decide (x ≤ y))).Perm l := (List.mergeSort_perm ss _).trans hp
  refine List.Perm.eq_of_pairwise (le := fun x y => x ≤ y) (fun a b _ _ h1 h2 => by omega) ?_ (h.imp fun hh => by omega) h1
  have := List.pairwise_mergeSort (le := fun (x y : Int) => decide (x ≤ y)) (fun a b c h1 h2 => by simp at *; omega) (fun a b => by simp; omega) ss
  exact this.imp fun hh => by simpa using hh
theorem keys_c (mb : Option Nat) (W : World) : Calls Try.prog 58 #[.map mb] W fun e w' => e = .returned (.func (.func 68) #[] #[.pointer (some ⟨W.heap.size, 0, none⟩)]) ∧ w' = W.alloc (.cells #[.map mb] 59) :=
  (callsIn_wide (n := 5)).1 (AnyZI.keys_in layKy Fence.wide 5 trivial rfl mb W)
theorem sortsI (m : Nat) : AnyZI.SortsIn Try.prog laySo_ren Fence.wide m :=
  ⟨fun blk off cap ss W hH hblk hsz => callsIn_wide.2 (AnyM.slices_Sort_int laySI blk off cap ss W hH hblk hsz),
   fun p cap W => callsIn_wide.2 (AnyM.slices_Sort_int_none laySI p cap W)⟩
set_option maxHeartbeats 1000000 in
theorem sorted_c {w : World} {b n : Nat} {bl : Nat → Nat} {D : DataW Unit} {l : List Fil} (hown : w.ownsMap Try.prog 3 ptrE b n D) (hm : FlM bl D l) (hd : (l.map (·.id)).Pairwise (· < ·)) (hl : l.length ≤ 1073741824) {B : Nat} (hB : w.cell? ⟨B, 0, none⟩ = some (.map (some b))) :
    Calls Try.prog 57 #[.func (.func 68) #[] #[.pointer (some ⟨B, 0, none⟩)]] w fun e w' => ∃ v, e = .returned v ∧ w'.ownsRow w.heap.size 3 1 v l.length ((idsZ l).map encZ) ∧ (v = .slice none 0 0 ↔ l = []) ∧ Below w.heap.size w w' := by
  refine (callsIn_wide (n := 6)).1 ?_
  have hsz : Maps.size D = l.length := MH.size hm (hown.canon lawI) (files_keys hd)
  have hBl : B < w.heap.size := World.block_lt_of_cell? (a := ⟨B, 0, none⟩) w hB
  have hseq : SeqGives Fence.wide 3 Try.prog 68 #[.pointer (some ⟨B, 0, none⟩)] encZ (fun ss => ss.Perm (intKeys D)) (Maps.size D) w :=
    AnyZI.keys_gives (ρ := layKy_ren) { layKy with } Fence.wide _ trivial rfl (by omega) B b n D _ hBl hB hown
  have cS := AnyZI.sorted_in laySo Fence.wide 6 trivial trivial trivial trivial rfl (by omega) (sortsI _) (enters_of Try.func67 (by kernel_rfl) rfl) 68 #[.pointer (some ⟨B, 0, none⟩)] trivial (enters_of Try.func68 (by kernel_rfl) rfl) _ _ (by rw [hsz]; unfold maxLen; omega) (by rw [hsz]; omega) _ hseq
  change CallsIn _ _ Try.prog 57 _ _ _ at cS
  refine cS.mono ?_
  rintro e w' ⟨v, ss, rfl, hS, hrow, hnil, hb⟩
  have hp : ss.Perm (idsZ l) := List.Perm.trans hS (flm_keys hm hown hd).symm
  have hlen : ss.length = l.length := by rw [hp.length_eq]; unfold idsZ; simp
  rw [sorted_ids (idsZ_up hd) hp, hlen] at hrow
  refine ⟨v, rfl, hrow, hnil.trans ⟨fun e => ?_, fun e => ?_⟩, hb⟩
  · subst e
    exact List.eq_nil_of_length_eq_zero hlen.symm
  · subst e
    exact List.eq_nil_of_length_eq_zero hlen
noncomputable def dirSyncL (d : Dsk) : Dsk × Int :=
  let r := opD d
  if r.2 ≠ 0 then r else (settleL r.1 d.chg.length, 0)
set_option maxRecDepth 100000 in
set_option maxHeartbeats 4000000 in
theorem ddirsync_c {w : World} {k : Dk} {d : Dsk} (h : DAt w k d) (ho : DOl d) (hs : SmD d) (h1 : d.ops + 1 ≤ 1073741824) :
    Calls Try.prog 29 #[.pointer (some ⟨k.p, 0, none⟩)] w fun e w' => e = .returned (.int .i64 (dirSyncL d).2) ∧ ∃ k', DRes w w' k d k' (dirSyncL d).1 := by
  have H := hid (dbegin_c h hs)
  have HO := hid ho.op
  have HS := hid (hs.op h1)
  obtain ⟨p, ep⟩ : ∃ p, k.p = p := ⟨_, rfl⟩
  obtain ⟨r, er⟩ : ∃ r, (opD d).2 = r := ⟨_, rfl⟩
  have EP := hid ep
  rw [ep] at H ⊢
  rw [er] at H
  by_cases hr0 : r = 0
  · subst hr0
    have HD : Hid (dirSyncL d = (settleL (opD d).1 d.chg.length, 0)) := by unfold Hid dirSyncL; simp only; rw [if_neg (by simp [er])]
    obtain ⟨L, eL⟩ : ∃ L, d.chg.length = L := ⟨_, rfl⟩
    have EL := hid eL
    rw [eL] at HD
    clear h ho hs ep er h1 eL
    go_enter Try.func29, Try.ntmps29
    go_wp2_with fail
    refine H.out.mono ?_
    rintro e w1 ⟨rfl, hR⟩
    have hR := hid hR
    obtain ⟨-, -, -, c3, -⟩ := hR.out.at_.cells
    have HST := hid (dsettle_c hR.out.at_ HO.out HS.out (n := L) (by rw [← EL.out]; exact Nat.le_refl _))
    rw [EP.out] at HST c3
    unfold chV at c3
    rw [show (opD d).1.chg.length = L from EL.out] at c3
    go_wp2_with fail
    refine HST.out.mono ?_
    rintro e w2 ⟨rfl, k2, hR2⟩
    have hR2 := hid hR2
    go_wp2_with fail
    go_ret
    exact ⟨cret_i (by rw [HD.out]), k2, by rw [HD.out]; exact hR.out.then_ hR2.out⟩
  · have HD : Hid (dirSyncL d = ((opD d).1, r)) := by unfold Hid dirSyncL; simp only; rw [if_pos (by rw [er]; exact hr0), ← er]
    have hne : (r == 0) = false := by simpa using hr0
    clear h ho hs ep er h1 hr0
    go_enter Try.func29, Try.ntmps29
    go_wp2_with fail
    refine H.out.mono ?_
    rintro e w1 ⟨rfl, hR⟩
    have hR := hid hR
    go_wp2_with fail
    go_ret
    exact ⟨cret_i (by rw [HD.out]), k, by rw [HD.out]; exact hR.out⟩
end Go.Proofs.Ytdaelblapgcljaa.Fx
