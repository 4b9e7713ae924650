/- Package disk: a disk that the call itself has made: each operation. -/
import Derived.Test.YtdaelblapgcljaaDkX
namespace Go.Proofs.Ytdaelblapgcljaa.Fx
open Go.ChangeShapes Go.WideShapes Go.ChangeAt Go.RowKit Go.Maps Go.Sort
set_option linter.unusedVariables false

/-- the struct at p is this disk, all of it in blocks from B on; what lay below B in w0 has not turned; the blocks Y are none of its own -/
structure OnK (B : Nat) (w0 w : World) (k : Dk) (d : Dsk) (n : Nat) (Y : List Nat) : Prop where
  at_ : DAt w k d
  ol : DOl d
  bud : BudD d n
  bel : Below B w0 w
  lo : B ≤ w.heap.size
  foot : ∀ b, Foot k d b → B ≤ b
  off : ∀ b ∈ Y, ¬ Foot k d b ∧ b < w.heap.size
def On (B : Nat) (w0 w : World) (p : Nat) (d : Dsk) (n : Nat) (Y : List Nat) : Prop := ∃ k, k.p = p ∧ OnK B w0 w k d n Y
/-- the blocks Y are as they were -/
def Keep (Y : List Nat) (w v : World) : Prop := w.heap.size ≤ v.heap.size ∧ ∀ b ∈ Y, v.heap[b]? = w.heap[b]?
theorem Keep.trans {Y : List Nat} {a b c : World} (h : Keep Y a b) (k : Keep Y b c) : Keep Y a c := ⟨Nat.le_trans h.1 k.1, fun x hx => (k.2 x hx).trans (h.2 x hx)⟩
theorem OnK.step {B : Nat} {w0 w w' : World} {k k' : Dk} {d d' : Dsk} {n n' : Nat} {Y : List Nat} (h : OnK B w0 w k d n Y) (r : DRes w w' k d k' d') (ho : DOl d') (hb : BudD d' n') : OnK B w0 w' k' d' n' Y ∧ Keep Y w w' :=
  ⟨⟨r.at_, ho, hb, Tn.below_ h.bel r.tn h.lo h.foot, Nat.le_trans h.lo r.tn.size, fun b hb => by
    rcases r.sub b hb with h1 | h1
    · exact h.foot b h1
    · exact Nat.le_trans h.lo h1, fun b hb => ⟨fun hf => by
      rcases r.sub b hf with h1 | h1
      · exact (h.off b hb).1 h1
      · have := (h.off b hb).2; omega, Nat.lt_of_lt_of_le (h.off b hb).2 r.tn.size⟩⟩, r.tn.size, fun b hb => r.tn.block b (h.off b hb).2 (h.off b hb).1⟩
theorem OnK.more {B : Nat} {w0 w : World} {k : Dk} {d : Dsk} {n : Nat} {Y : List Nat} (h : OnK B w0 w k d n Y) {g : Nat} (h1 : ¬ Foot k d g) (h2 : g < w.heap.size) : OnK B w0 w k d n (g :: Y) :=
  ⟨h.at_, h.ol, h.bud, h.bel, h.lo, h.foot, fun b hb => by
    rcases List.mem_cons.1 hb with rfl | hb
    · exact ⟨h1, h2⟩
    · exact h.off b hb⟩
theorem On.step {B : Nat} {w0 w w' : World} {k k' : Dk} {d d' : Dsk} {n n' : Nat} {Y : List Nat} (h : OnK B w0 w k d n Y) (r : DRes w w' k d k' d') (ho : DOl d') (hb : BudD d' n') : On B w0 w' k.p d' n' Y ∧ Keep Y w w' :=
  ⟨⟨k', r.p, (h.step r ho hb).1⟩, (h.step r ho hb).2⟩
theorem On.below {B : Nat} {w0 w : World} {p : Nat} {d : Dsk} {n : Nat} {Y : List Nat} (h : On B w0 w p d n Y) : Below B w0 w := by obtain ⟨k, _, h⟩ := h; exact h.bel
/-- memory grows -/
theorem On.grow {B : Nat} {w0 w w' : World} {p : Nat} {d : Dsk} {n : Nat} {Y : List Nat} (h : On B w0 w p d n Y) (b : Below w.heap.size w w') : On B w0 w' p d n Y ∧ Keep Y w w' := by
  obtain ⟨k, rfl, h⟩ := h
  exact On.step h (DRes.below h.at_ b) h.ol h.bud
/-- a block that is made is none of the disk's -/
theorem On.fresh {B : Nat} {w0 w w' : World} {p : Nat} {d : Dsk} {n : Nat} {Y : List Nat} (h : On B w0 w p d n Y) (b : Below w.heap.size w w') {g : Nat} (h1 : w.heap.size ≤ g) (h2 : g < w'.heap.size) : On B w0 w' p d n (g :: Y) := by
  obtain ⟨k, rfl, h⟩ := h
  have h3 := (h.step (DRes.below h.at_ b) h.ol h.bud).1
  exact ⟨k, rfl, h3.more (fun hf => by have := h.at_.lt hf; omega) h2⟩
/-- memory beside it turns -/
theorem On.other {B : Nat} {w0 w w' : World} {p : Nat} {d : Dsk} {n : Nat} {Y : List Nat} (h : On B w0 w p d n Y) {X : Nat → Prop} (t : Tn X w w') (hX : ∀ b, X b → B ≤ b) (hY : ∀ k, k.p = p → OnK B w0 w k d n Y → ∀ b, X b → ¬ Foot k d b) : On B w0 w' p d n Y := by
  obtain ⟨k, e, h⟩ := h
  exact ⟨k, e, ⟨h.at_.tn t (hY k e h), h.ol, h.bud, Tn.below_ h.bel t h.lo hX, Nat.le_trans h.lo t.size, h.foot, fun b hb => ⟨(h.off b hb).1, Nat.lt_of_lt_of_le (h.off b hb).2 t.size⟩⟩⟩
section
variable {B : Nat} {w0 w : World} {p : Nat} {d : Dsk} {n : Nat} {Y : List Nat}
theorem oNew {room : Int} (h1 : -9223372036854775808 ≤ room) (h2 : room ≤ 9223372036854775807) (hB : Below B w0 w) (hl : B ≤ w.heap.size) : Calls Try.prog 10 #[.int .i64 room] w fun e w' => ∃ p, e = .returned (.pointer (some ⟨p, 0, none⟩)) ∧ On B w0 w' p (newD room) 0 [] ∧ Below w.heap.size w w' ∧ w.heap.size ≤ p := by
  refine (dnew_c h1 h2).mono ?_
  rintro e w' ⟨k, rfl, hA, hf, hb⟩
  exact ⟨k.p, rfl, ⟨k, rfl, hA, new_ol room, new_bud room h2 0, hB.trans (hb.mono hl), Nat.le_trans hl hb.size, fun b hh => Nat.le_trans hl (hf b hh), fun b hh => (by cases hh)⟩, hb, hf _ (.inl rfl)⟩
theorem oCreate (h : On B w0 w p d n Y) (hn : n + 1 ≤ 1073741824) {s : ByteArray} (hz : s.size ≤ maxLen) : Calls Try.prog 16 #[.pointer (some ⟨p, 0, none⟩), .string s] w fun e w' => e = .returned (.int .i64 (createD d s).2) ∧ On B w0 w' p (createD d s).1 (n + 1) Y ∧ Keep Y w w' := by
  obtain ⟨k, rfl, h⟩ := h
  have hs := h.bud.sm (by omega)
  refine (dcreate_c h.at_ h.ol hs (by have := h.bud.ops; omega) (by have := h.bud.next; omega) hz).mono ?_
  rintro e w' ⟨rfl, k', r⟩
  exact ⟨rfl, On.step h r (h.ol.create s) (h.bud.create s)⟩
theorem oAppend (h : On B w0 w p d n Y) {s : ByteArray} (hz : s.size ≤ maxLen) {b : List Nat} {ab : Option Addr} {cb : Nat} (hn : n + 1 + b.length ≤ 1073741824) (hb : By w ab b.length (gb b)) (hbx : 0 < b.length → ∀ x off, ab = some ⟨x, off, none⟩ → x ∈ Y ∨ x < B) (h8 : ∀ x ∈ b, x < 256) : Calls Try.prog 19 #[.pointer (some ⟨p, 0, none⟩), .string s, .slice ab b.length cb] w fun e w' => e = .returned (.int .i64 (appendD d s b).2) ∧ On B w0 w' p (appendD d s b).1 (n + 1 + b.length) Y ∧ Keep Y w w' := by
  obtain ⟨k, rfl, h⟩ := h
  have hs := h.bud.sm (by omega)
  refine (dappend_c h.at_ h.ol hs (by have := h.bud.ops; omega) hz hb (fun h0 x off e hf => ?_) (by omega)).mono ?_
  · rcases hbx h0 x off e with h1 | h1
    · exact (h.off x h1).1 hf
    · have := h.foot x hf; omega
  · rintro e w' ⟨rfl, k', r⟩
    exact ⟨rfl, On.step h r (h.ol.append s h8) (h.bud.append h.ol s b)⟩
theorem oSync (h : On B w0 w p d n Y) (hn : n + 1 ≤ 1073741824) {s : ByteArray} (hz : s.size ≤ maxLen) : Calls Try.prog 28 #[.pointer (some ⟨p, 0, none⟩), .string s] w fun e w' => e = .returned (.int .i64 (syncD d s).2) ∧ On B w0 w' p (syncD d s).1 (n + 1) Y ∧ Keep Y w w' := by
  obtain ⟨k, rfl, h⟩ := h
  refine (dsync_c h.at_ h.ol (h.bud.sm (by omega)) (by have := h.bud.ops; omega) hz).mono ?_
  rintro e w' ⟨rfl, k', r⟩
  exact ⟨rfl, On.step h r (h.ol.sync s) (h.bud.sync s)⟩
theorem oDirSync (h : On B w0 w p d n Y) (hn : n + 1 ≤ 1073741824) : Calls Try.prog 29 #[.pointer (some ⟨p, 0, none⟩)] w fun e w' => e = .returned (.int .i64 (dirSyncL d).2) ∧ On B w0 w' p (dirSyncL d).1 (n + 1) Y ∧ Keep Y w w' := by
  obtain ⟨k, rfl, h⟩ := h
  refine (ddirsync_c h.at_ h.ol (h.bud.sm (by omega)) (by have := h.bud.ops; omega)).mono ?_
  rintro e w' ⟨rfl, k', r⟩
  exact ⟨rfl, On.step h r h.ol.dirSyncL h.bud.dirSyncL⟩
theorem oRename (h : On B w0 w p d n Y) (hn : n + 1 ≤ 1073741824) {s t : ByteArray} (hz : s.size ≤ maxLen) (hzt : t.size ≤ maxLen) : Calls Try.prog 30 #[.pointer (some ⟨p, 0, none⟩), .string s, .string t] w fun e w' => e = .returned (.int .i64 (renameD d s t).2) ∧ On B w0 w' p (renameD d s t).1 (n + 1) Y ∧ Keep Y w w' := by
  obtain ⟨k, rfl, h⟩ := h
  refine (drename_c h.at_ h.ol (h.bud.sm (by omega)) (by have := h.bud.ops; omega) hz hzt).mono ?_
  rintro e w' ⟨rfl, k', r⟩
  exact ⟨rfl, On.step h r (h.ol.rename s t) (h.bud.rename s t)⟩
theorem oRemove (h : On B w0 w p d n Y) (hn : n + 1 ≤ 1073741824) {s : ByteArray} (hz : s.size ≤ maxLen) : Calls Try.prog 27 #[.pointer (some ⟨p, 0, none⟩), .string s] w fun e w' => e = .returned (.int .i64 (removeD d s).2) ∧ On B w0 w' p (removeD d s).1 (n + 1) Y ∧ Keep Y w w' := by
  obtain ⟨k, rfl, h⟩ := h
  refine (dremove_c h.at_ h.ol (h.bud.sm (by omega)) (by have := h.bud.ops; omega) hz).mono ?_
  rintro e w' ⟨rfl, k', r⟩
  exact ⟨rfl, On.step h r (h.ol.remove s) (h.bud.remove s)⟩
theorem oRead (h : On B w0 w p d n Y) (hn : n + 1 ≤ 1073741824) {s : ByteArray} (hz : s.size ≤ maxLen) : Calls Try.prog 22 #[.pointer (some ⟨p, 0, none⟩), .string s] w fun e w' => ∃ v, e = .returned (.tuple #[v, .int .i64 (readD d s).2.1]) ∧ OB w' B v (readD d s).2.2.length (gb (readD d s).2.2) ∧ On B w0 w' p (readD d s).1 (n + 1) Y ∧ (∀ g, v.ownBlock = some g → On B w0 w' p (readD d s).1 (n + 1) (g :: Y) ∧ w.heap.size ≤ g) ∧ Keep Y w w' := by
  obtain ⟨k, rfl, h⟩ := h
  refine (dread_c h.at_ h.ol (h.bud.sm (by omega)) (by have := h.bud.ops; omega) hz).mono ?_
  rintro e w' ⟨v, rfl, hO, hge, k', r, hnf⟩
  obtain ⟨h1, h2⟩ := h.step r (h.ol.read s) (h.bud.read s)
  exact ⟨v, rfl, hO.low h.lo, ⟨k', r.p, h1⟩, fun g hg => ⟨⟨k', r.p, h1.more (hnf g hg) (own_lt hO hg)⟩, hge g hg⟩, h2⟩
theorem oList (h : On B w0 w p d n Y) (hn : n + 1 ≤ 1073741824) : Calls Try.prog 26 #[.pointer (some ⟨p, 0, none⟩)] w fun e w' => ∃ v, e = .returned (.tuple #[v, .int .i64 (opD d).2]) ∧ On B w0 w' p (opD d).1 (n + 1) Y ∧ Keep Y w w' ∧ ((opD d).2 ≠ 0 → v = .slice none 0 0) ∧ ((opD d).2 = 0 → w'.ownsRow w.heap.size 9 1 v d.names.length ((listD d).map encStr)) ∧ (∀ g, v.ownBlock = some g → On B w0 w' p (opD d).1 (n + 1) (g :: Y) ∧ w.heap.size ≤ g) := by
  obtain ⟨k, rfl, h⟩ := h
  refine (dlist_c h.at_ h.ol (h.bud.sm (by omega))).mono ?_
  rintro e w' ⟨v, rfl, r, h3, h4, h5⟩
  obtain ⟨h1, h2⟩ := h.step r h.ol.op h.bud.op
  refine ⟨v, rfl, ⟨k, rfl, h1⟩, h2, h4, h5, fun g hg => ⟨⟨k, rfl, h1.more (h3 g hg).2 ?_⟩, (h3 g hg).1⟩⟩
  by_cases h0 : (opD d).2 = 0
  · exact own_lt (h5 h0) hg
  · rw [h4 h0] at hg; cases hg
theorem oArm (h : On B w0 w p d n Y) {x y : Int} (hx : -9223372036854775808 ≤ x ∧ x ≤ 9223372036854775807) (hy : -9223372036854775808 ≤ y ∧ y ≤ 9223372036854775807) : Calls Try.prog 17 #[.pointer (some ⟨p, 0, none⟩), .int .i64 x, .int .i64 y] w fun e w' => e = .returned (.tuple #[]) ∧ On B w0 w' p (armD d x y) n Y ∧ Keep Y w w' := by
  obtain ⟨k, rfl, h⟩ := h
  refine (darm_c h.at_ h.bud.ops.1 hx hy).mono ?_
  rintro e w' ⟨rfl, r⟩
  exact ⟨rfl, On.step h r (h.ol.arm x y) (h.bud.arm x y)⟩
theorem oCrash (h : On B w0 w p d n Y) (hn : n ≤ 1073741824) {x : Int} (hx : -9223372036854775808 ≤ x ∧ x ≤ 9223372036854775807) {kl : List Int} {ak : Option Addr} {ck : Nat} (hk : InK w ak kl) (hkb : 0 < kl.length → ∀ b off, ak = some ⟨b, off, none⟩ → b ∈ Y ∨ b < B) (hkc : kl.length ≤ ck) (hcm : ck ≤ 9223372036854775807) (hki : ∀ x ∈ kl, -9223372036854775808 ≤ x ∧ x ≤ 9223372036854775807) :
    Calls Try.prog 14 #[.pointer (some ⟨p, 0, none⟩), .int .i64 x, .slice ak kl.length ck] w fun e w' => e = .returned (.tuple #[]) ∧ On B w0 w' p (crashL d x kl) n Y ∧ Keep Y w w' := by
  obtain ⟨k, rfl, h⟩ := h
  refine (dcrash_c h.at_ h.ol (h.bud.sm hn) hx hk (fun h0 b off e hf => ?_) hkc hcm hki).mono ?_
  · rcases hkb h0 b off e with h1 | h1
    · exact (h.off b h1).1 hf
    · have := h.foot b hf; omega
  · rintro e w' ⟨rfl, k', r⟩
    exact ⟨rfl, On.step h r (h.ol.crashL x kl) (h.bud.crashL h.ol x kl)⟩
theorem oSize (h : On B w0 w p d n Y) (hn : n ≤ 1073741824) : Calls Try.prog 21 #[.pointer (some ⟨p, 0, none⟩)] w fun e w' => e = .returned (.int .i64 (sizeD d : Nat)) ∧ On B w0 w' p d n Y ∧ Keep Y w w' := by
  obtain ⟨k, rfl, h⟩ := h
  refine (dsize_c h.at_ h.ol (h.bud.sm hn)).mono ?_
  rintro e w' ⟨rfl, hb⟩
  exact ⟨rfl, On.step h (DRes.below h.at_ hb) h.ol h.bud⟩
theorem oOps (h : On B w0 w p d n Y) : Calls Try.prog 18 #[.pointer (some ⟨p, 0, none⟩)] w fun e w' => e = .returned (.int .i64 d.ops) ∧ w = w' := by
  obtain ⟨k, rfl, h⟩ := h
  exact dops_c h.at_
theorem oDown (h : On B w0 w p d n Y) : Calls Try.prog 20 #[.pointer (some ⟨p, 0, none⟩)] w fun e w' => e = .returned (.bool d.off) ∧ w = w' := by
  obtain ⟨k, rfl, h⟩ := h
  exact ddown_c h.at_
end
theorem inK_nil (w : World) (ao : Option Addr) : InK w ao [] := fun h => absurd h (by simp)
theorem By.keep {w v : World} {Y : List Nat} {b off n : Nat} {f : Nat → Nat} (h : By w (some ⟨b, off, none⟩) n f) (k : Keep Y w v) (hb : b ∈ Y) : By v (some ⟨b, off, none⟩) n f := fun hn => by
  obtain ⟨b', off', e, hc⟩ := h hn
  cases e
  exact ⟨b, off, rfl, fun i hi => (World.cell?_of_block (a := ⟨b, off + i, none⟩) (k.2 b hb)).trans (hc i hi)⟩
theorem OB.keep {w v : World} {Y : List Nat} {base n : Nat} {x : Value} {f : Nat → Nat} (h : OB w base x n f) (k : Keep Y w v) (hb : ∀ g, x.ownBlock = some g → g ∈ Y) : OB v base x n f := by
  obtain ⟨h1, h2⟩ := h
  refine ⟨h1, h2.imp id ?_⟩
  rintro ⟨g, cap, cur, e, hb', hh, r⟩
  exact ⟨g, cap, cur, e, hb', (k.2 g (hb g (by rw [e]; rfl))).trans hh, r⟩
end Go.Proofs.Ytdaelblapgcljaa.Fx
