/- Slots in memory: which slots lie where. -/
import Derived.Test.YtcmndefjmhcbhaaDoorTreM
import Derived.Test.YtcmndefjmhcbhaaDoorTreS
set_option linter.unusedVariables false
namespace Go.Proofs.YtcmndefjmhcbhaaDoor
open Go.RowKit
namespace TE

def Sl.row (s : Sl) : Array Value := #[.int .i64 (s.c.k : Nat), .int .u64 (s.c.a : Nat), .int .i64 (s.c.b : Nat), .int .i64 (s.c.r : Nat), .int .i64 (s.c.g : Nat), .int .i64 (s.c.s : Nat), .int .u64 (s.c.m : Nat), .int .u64 (s.nx : Nat), .int .u64 (s.pv : Nat), .int .i64 (s.d : Nat)]
def Cp.row (c : Cp) : Array Value := #[.int .i64 (c.k : Nat), .int .u64 (c.a : Nat), .int .i64 (c.b : Nat), .int .i64 (c.r : Nat), .int .i64 (c.g : Nat), .int .i64 (c.s : Nat), .int .u64 (c.m : Nat)]
def Z10 : Array Value := #[.int .i64 0, .int .u64 0, .int .i64 0, .int .i64 0, .int .i64 0, .int .i64 0, .int .u64 0, .int .u64 0, .int .u64 0, .int .i64 0]
/-- A capability that a slot of a tree may have. -/
structure Fit (c : Cp) : Prop where
  rt : Rt c.k c.a c.b c.r c.g c.s c.m
  cb : cB c.k c.a c.b c.r c.g c.s c.m = true
  k0 : c.k ≠ 0
structure GoodS (s : Sl) : Prop where
  ft : Fit s.c
  hn : s.nx < 4294967296 ∧ s.nx % 32 = 0
  hp : s.pv < 4294967296 ∧ s.pv % 32 = 0
  hd : s.d ≤ 4096
/-- In the slots that σ names lie those, elsewhere what g says. -/
structure Ms (S : Nat) (f g : Nat → Nat) (σ : Nat → Option Sl) : Prop where
  ok : ∀ z s, σ z = some s → sE S z = 0 ∧ GoodS s ∧ ldV S f z = s.row ∧ ldE S f z = 0
  out : ∀ y, y % 8 = 0 → σ (y / 32 * 32) = none → f y = g y
def Zr (g : Nat → Nat) (x : Nat) : Prop := x % 32 = 0 → g x = 0 ∧ g (x + 8) = 0 ∧ g (x + 16) = 0 ∧ g (x + 24) = 0
/-- The memory with a slot laid. -/
def pS (f : Nat → Nat) (S x : Nat) (s : Sl) : Nat → Nat := stF f S x (wordN s.c.k s.c.a s.c.b s.c.r s.c.g s.c.s) s.c.m (lnkN s.nx s.pv) s.d

theorem ld_other {S x z : Nat} (hx : sE S x = 0) (hS : S % 4096 = 0) (hz : sE S z = 0) (hne : z ≠ x) (f : Nat → Nat) (a b c d : Nat) :
    ldV S (stF f S x a b c d) z = ldV S f z ∧ ldE S (stF f S x a b c d) z = ldE S f z := by
  have q := (four hx hS f a b c d).2.2.2.2
  obtain ⟨x1, x2⟩ := sE_ok hx
  obtain ⟨z1, z2⟩ := sE_ok hz
  unfold ldV ldE
  rw [q z (by omega) (by omega) (by omega) (by omega), q (z + 8) (by omega) (by omega) (by omega) (by omega), q (z + 16) (by omega) (by omega) (by omega) (by omega), q (z + 24) (by omega) (by omega) (by omega) (by omega)]
  exact ⟨rfl, rfl⟩

theorem Ms.put {S : Nat} {f g : Nat → Nat} {σ : Nat → Option Sl} (h : Ms S f g σ) (hS : S % 4096 = 0) {x : Nat} (hx : sE S x = 0) {s : Sl} (hs : GoodS s) : Ms S (pS f S x s) g (up σ x (some s)) := by
  refine ⟨fun z t ht => ?_, fun y hy hn => ?_⟩
  · unfold up at ht
    by_cases e : z = x
    · subst e
      rw [if_pos rfl] at ht
      cases ht
      have := ld_back hx hS f hs.ft.rt hs.ft.cb hs.hn hs.hp hs.hd
      exact ⟨hx, hs, this.1, this.2⟩
    · rw [if_neg e] at ht
      obtain ⟨a, b, c, d⟩ := h.ok z t ht
      have := ld_other hx hS a e f (wordN s.c.k s.c.a s.c.b s.c.r s.c.g s.c.s) s.c.m (lnkN s.nx s.pv) s.d
      exact ⟨a, b, this.1.trans c, this.2.trans d⟩
  · unfold up at hn
    obtain ⟨x1, x2⟩ := sE_ok hx
    by_cases e : y / 32 * 32 = x
    · rw [if_pos e] at hn; cases hn
    · rw [if_neg e] at hn
      exact ((four hx hS f _ _ _ _).2.2.2.2 y (by omega) (by omega) (by omega) (by omega)).trans (h.out y hy hn)

theorem Ms.wipe {S : Nat} {f g : Nat → Nat} {σ : Nat → Option Sl} (h : Ms S f g σ) (hS : S % 4096 = 0) {x : Nat} (hx : sE S x = 0) (hz : Zr g x) : Ms S (stF f S x 0 0 0 0) g (up σ x none) := by
  obtain ⟨q0, q1, q2, q3, q4⟩ := four hx hS f 0 0 0 0
  obtain ⟨z0, z1, z2, z3⟩ := hz (sE_ok hx).1
  obtain ⟨x1, x2⟩ := sE_ok hx
  refine ⟨fun z t ht => ?_, fun y hy hn => ?_⟩
  · unfold up at ht
    by_cases e : z = x
    · rw [if_pos e] at ht; cases ht
    · rw [if_neg e] at ht
      obtain ⟨a, b, c, d⟩ := h.ok z t ht
      have := ld_other hx hS a e f 0 0 0 0
      exact ⟨a, b, this.1.trans c, this.2.trans d⟩
  · unfold up at hn
    by_cases e : y / 32 * 32 = x
    · have : y = x ∨ y = x + 8 ∨ y = x + 16 ∨ y = x + 24 := by omega
      rcases this with e | e | e | e <;> rw [e]
      · rw [q0, z0]
      · rw [q1, z1]
      · rw [q2, z2]
      · rw [q3, z3]
    · rw [if_neg e] at hn
      exact (q4 y (by omega) (by omega) (by omega) (by omega)).trans (h.out y hy hn)

theorem Ms.emp {S : Nat} {f g : Nat → Nat} {σ : Nat → Option Sl} (h : Ms S f g σ) {x : Nat} (hx : sE S x = 0) (hz : Zr g x) (hn : σ x = none) : ldV S f x = Z10 ∧ ldE S f x = 0 := by
  obtain ⟨x1, x2⟩ := sE_ok hx
  obtain ⟨z0, z1, z2, z3⟩ := hz (sE_ok hx).1
  refine ld_zero hx ?_ ?_ ?_ ?_
  · exact (h.out _ (by omega) (by rw [show x / 32 * 32 = x by omega]; exact hn)).trans z0
  · exact (h.out _ (by omega) (by rw [show (x + 8) / 32 * 32 = x by omega]; exact hn)).trans z1
  · exact (h.out _ (by omega) (by rw [show (x + 16) / 32 * 32 = x by omega]; exact hn)).trans z2
  · exact (h.out _ (by omega) (by rw [show (x + 24) / 32 * 32 = x by omega]; exact hn)).trans z3
theorem ld_bad {S x : Nat} (f : Nat → Nat) (hx : ¬ sE S x = 0) : ldV S f x = Z10 ∧ ldE S f x = sE S x := by
  unfold ldV ldE
  rw [if_neg hx, if_neg hx]
  exact ⟨rfl, rfl⟩
/-- The slots of a tree in the heap: x: the tree's block, O: all blocks of it and its memory; w0: a world that they are new since. -/
structure TrS (w0 W : World) (O : Nat → Prop) (x ad S n : Nat) (g : Nat → Nat) (σ : Nat → Option Sl) (fs ct : Nat) : Prop where
  hp : SPrts w0
  hb : Below w0.heap.size w0 W
  lo : ∀ i, O i → w0.heap.size ≤ i
  ox : O x
  blk : W.heap[x]? = some (.cells #[.pointer (some ⟨ad, 0, none⟩), .int .u64 (fs : Nat), .int .i64 (ct : Nat)] 59 (0, 0))
  mem : ∃ f, MemAt W (fun i => O i ∧ i ≠ x) ad S n f ∧ Ms S f g σ
  z0 : σ 0 = none
theorem TrS.prts {w0 W : World} {O : Nat → Prop} {x ad S n : Nat} {g : Nat → Nat} {σ : Nat → Option Sl} {fs ct : Nat} (h : TrS w0 W O x ad S n g σ fs ct) : SPrts W := h.hp.later h.hb
theorem TrS.sm {w0 W : World} {O : Nat → Prop} {x ad S n : Nat} {g : Nat → Nat} {σ : Nat → Option Sl} {fs ct : Nat} (h : TrS w0 W O x ad S n g σ fs ct) : 65536 ≤ S ∧ S ≤ 4294967296 ∧ S % 4096 = 0 := by
  obtain ⟨f, ⟨mb, pg, h1⟩, h2⟩ := h.mem; exact h1.s0
theorem TrS.below {w0 W W' : World} {O : Nat → Prop} {x ad S n : Nat} {g : Nat → Nat} {σ : Nat → Option Sl} {fs ct : Nat} (h : TrS w0 W O x ad S n g σ fs ct) (hb : Below W.heap.size W W') : TrS w0 W' O x ad S n g σ fs ct := by
  obtain ⟨f, h1, h2⟩ := h.mem
  exact ⟨h.hp, below_tr h.hb hb, h.lo, h.ox, block_later hb h.blk, ⟨f, h1.below hb, h2⟩, h.z0⟩
theorem TrS.turn {w0 W W' : World} {O Y : Nat → Prop} {x ad S n : Nat} {g : Nat → Nat} {σ : Nat → Option Sl} {fs ct : Nat} (h : TrS w0 W O x ad S n g σ fs ct) (hb : Turn Y W W') (hY : ∀ i, O i → ¬ Y i) (hl : ∀ i, Y i → w0.heap.size ≤ i) : TrS w0 W' O x ad S n g σ fs ct := by
  obtain ⟨f, h1, h2⟩ := h.mem
  exact ⟨h.hp, h.hb.trans (hb.below hl h.hb.size), h.lo, h.ox, turn_row hb h.blk (hY _ h.ox), ⟨f, h1.turn hb (fun i q => hY i q.1), h2⟩, h.z0⟩
/-- What a doing leaves: the tree's blocks are those of before and new ones, all others are as they were. -/
def NxS (w0 W : World) (O : Nat → Prop) (x ad S n : Nat) (g : Nat → Nat) (σ : Nat → Option Sl) (fs ct : Nat) (W' : World) : Prop := ∃ O', TrS w0 W' O' x ad S n g σ fs ct ∧ Turn O W W' ∧ ∀ i, i < W.heap.size → O' i → O i
theorem NxS.start {w0 W : World} {O : Nat → Prop} {x ad S n : Nat} {g : Nat → Nat} {σ : Nat → Option Sl} {fs ct : Nat} (h : TrS w0 W O x ad S n g σ fs ct) : NxS w0 W O x ad S n g σ fs ct W := ⟨O, h, Turn.refl _ _, fun _ _ q => q⟩
theorem NxS.trans {w0 W W1 W2 : World} {O O1 : Nat → Prop} {x ad S n2 : Nat} {g : Nat → Nat} {σ2 : Nat → Option Sl} {fs ct : Nat} (h1 : Turn O W W1) (h2 : ∀ i, i < W.heap.size → O1 i → O i) (h : NxS w0 W1 O1 x ad S n2 g σ2 fs ct W2) : NxS w0 W O x ad S n2 g σ2 fs ct W2 := by
  obtain ⟨O2, k1, k2, k3⟩ := h
  exact ⟨O2, k1, h1.trans k2 (fun i hi q => h2 i hi q), fun i hi q => h2 i hi (k3 i (Nat.lt_of_lt_of_le hi h1.size) q)⟩
theorem NxS.mono {w0 W W1 : World} {O : Nat → Prop} {x ad S n n2 : Nat} {g : Nat → Nat} {σ : Nat → Option Sl} {fs ct : Nat} (h : NxS w0 W O x ad S n g σ fs ct W1) (hn : n ≤ n2) : NxS w0 W O x ad S n2 g σ fs ct W1 := by
  obtain ⟨O1, k1, k2, k3⟩ := h
  obtain ⟨f, ⟨mb, pg, q1⟩, q2⟩ := k1.mem
  exact ⟨O1, ⟨k1.hp, k1.hb, k1.lo, k1.ox, k1.blk, ⟨f, ⟨mb, pg, { q1 with pgs := q1.pgs.mono hn }⟩, q2⟩, k1.z0⟩, k2, k3⟩
theorem ld_far {S z y v : Nat} (hz : sE S z = 0) (hy : y % 8 = 0) (hne : y / 32 * 32 ≠ z) (f : Nat → Nat) : ldV S (updF f y v) z = ldV S f z ∧ ldE S (updF f y v) z = ldE S f z := by
  obtain ⟨z1, z2⟩ := sE_ok hz
  have q : ∀ a, a ≠ y → updF f y v a = f a := fun a h => by unfold updF; rw [if_neg h]
  unfold ldV ldE
  rw [q z (by omega), q (z + 8) (by omega), q (z + 16) (by omega), q (z + 24) (by omega)]
  exact ⟨rfl, rfl⟩
/-- A word is written where no slot lies. -/
theorem Ms.reg {S : Nat} {f g : Nat → Nat} {σ : Nat → Option Sl} (h : Ms S f g σ) {y : Nat} (hy : y % 8 = 0) (hn : σ (y / 32 * 32) = none) (v : Nat) : Ms S (updF f y v) (updF g y v) σ := by
  refine ⟨fun z t ht => ?_, fun a ha hna => ?_⟩
  · obtain ⟨a, b, c, d⟩ := h.ok z t ht
    have := ld_far (v := v) a hy (fun e => by rw [e, ht] at hn; cases hn) f
    exact ⟨a, b, this.1.trans c, this.2.trans d⟩
  · unfold updF
    by_cases e : a = y
    · rw [if_pos e, if_pos e]
    · rw [if_neg e, if_neg e]; exact h.out a ha hna
theorem TrS.init {w0 W : World} {X : Nat → Prop} {x ad S n : Nat} {f : Nat → Nat} (hp : SPrts w0) (hb : Below w0.heap.size w0 W) (hX : ∀ i, X i → w0.heap.size ≤ i) (hx : w0.heap.size ≤ x) (hnx : ¬ X x) (hr : W.heap[x]? = some (.cells #[.pointer (some ⟨ad, 0, none⟩), .int .u64 (0 : Nat), .int .i64 (0 : Nat)] 59 (0, 0))) (hm : MemAt W X ad S n f) : TrS w0 W (fun i => X i ∨ i = x) x ad S n f (fun _ => none) 0 0 := by
  obtain ⟨mb, pg, h1⟩ := hm
  refine ⟨hp, hb, ?_, Or.inr rfl, hr, ⟨f, ⟨mb, pg, h1.wide (fun i q => ⟨Or.inl q, fun c => hnx (c ▸ q)⟩) (fun i q => ?_)⟩, fun z s h => (by cases h), fun y _ _ => rfl⟩, rfl⟩
  · rintro i (q | q)
    · exact hX i q
    · subst q; exact hx
  · rcases q.1 with c | c
    · exact h1.xlt i c
    · exact absurd c q.2
/-- What a store into the memory leaves. -/
theorem TrS.wrote {w0 W W' : World} {O : Nat → Prop} {x ad S n m : Nat} {g g2 f' : Nat → Nat} {σ σ' : Nat → Option Sl} {fs ct : Nat} (h : TrS w0 W O x ad S n g σ fs ct) (hW : Wst W (fun i => O i ∧ i ≠ x) ad S m f' W') (hm : Ms S f' g2 σ') (hz : σ' 0 = none) : NxS w0 W O x ad S m g2 σ' fs ct W' := by
  obtain ⟨Y, ⟨mb, pg, h1⟩, h2, h3⟩ := hW
  have hx := block_lt h.blk
  have t : Turn O W W' := ⟨h2.os, h2.tape, h2.output, h2.size, fun i hi q => h2.block i hi (fun c => q c.1)⟩
  have hbx : W'.heap[x]? = W.heap[x]? := h2.block x hx (fun c => c.2 rfl)
  refine ⟨fun i => Y i ∨ i = x, ⟨h.hp, h.hb.trans (t.below h.lo h.hb.size), ?_, Or.inr rfl, hbx.trans h.blk, ⟨f', ⟨mb, pg, h1.wide (fun i q => ⟨Or.inl q, fun c => ?_⟩) (fun i q => ?_)⟩, hm⟩, hz⟩, t, ?_⟩
  · rintro i (q | q)
    · by_cases hi : i < W.heap.size
      · exact h.lo i (h3 i q hi).1
      · exact Nat.le_trans h.hb.size (Nat.le_of_not_lt hi)
    · subst q; exact h.lo _ h.ox
  · subst c; exact (h3 _ q hx).2 rfl
  · rcases q with ⟨q | q, c⟩
    · exact h1.xlt i q
    · exact absurd q c
  · rintro i hi (q | q)
    · exact (h3 i q hi).1
    · subst q; exact h.ox
/-- What a store into the tree's own block leaves. -/
theorem TrS.setR {w0 W W' : World} {O : Nat → Prop} {x ad S n : Nat} {g : Nat → Nat} {σ : Nat → Option Sl} {fs ct fs' ct' : Nat} (h : TrS w0 W O x ad S n g σ fs ct) (hr : W'.heap[x]? = some (.cells #[.pointer (some ⟨ad, 0, none⟩), .int .u64 (fs' : Nat), .int .i64 (ct' : Nat)] 59 (0, 0))) (ht : Turn (fun i => i = x) W W') : NxS w0 W O x ad S n g σ fs' ct' W' := by
  obtain ⟨f, h1, h2⟩ := h.mem
  exact ⟨O, ⟨h.hp, h.hb.trans (ht.below (fun i (q : i = x) => by subst q; exact h.lo _ h.ox) h.hb.size), h.lo, h.ox, hr, ⟨f, h1.turn ht (fun i q => q.2), h2⟩, h.z0⟩, ⟨ht.os, ht.tape, ht.output, ht.size, fun i hi q => ht.block i hi (fun c : i = x => q (by subst c; exact h.ox))⟩, fun _ _ q => q⟩
end TE
end Go.Proofs.YtcmndefjmhcbhaaDoor
