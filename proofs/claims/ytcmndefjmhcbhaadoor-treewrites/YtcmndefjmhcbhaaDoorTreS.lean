/- Slots that are laid, loaded and wiped, once more. -/
import Derived.Test.YtcmndefjmhcbhaaDoorSlotD
set_option linter.unusedVariables false
namespace Go.Proofs.YtcmndefjmhcbhaaDoor
open Go.RowKit

/-- Four words that were laid are read. -/
theorem four {S x : Nat} (hE : sE S x = 0) (hS : S % 4096 = 0) (f : Nat → Nat) (a b c d : Nat) : stF f S x a b c d x = a ∧ stF f S x a b c d (x + 8) = b ∧ stF f S x a b c d (x + 16) = c ∧ stF f S x a b c d (x + 24) = d ∧ (∀ y, y ≠ x → y ≠ x + 8 → y ≠ x + 16 → y ≠ x + 24 → stF f S x a b c d y = f y) := by
  obtain ⟨h1, h2⟩ := sE_ok hE
  have q : ∀ y, y % 8 = 0 → y < S → errA S y = 0 := fun y p1 p2 => by unfold errA; rw [if_neg (fun c => c p1), if_neg (by omega)]
  unfold stF wrF
  rw [if_pos (q x (by omega) (by omega)), if_pos (q (x + 8) (by omega) (by omega)), if_pos (q (x + 16) (by omega) (by omega)), if_pos (q (x + 24) (by omega) (by omega))]
  unfold updF
  refine ⟨?_, ?_, ?_, ?_, fun y n1 n2 n3 n4 => ?_⟩
  · rw [if_neg (by omega), if_neg (by omega), if_neg (by omega), if_pos rfl]
  · rw [if_neg (by omega), if_neg (by omega), if_pos rfl]
  · rw [if_neg (by omega), if_pos rfl]
  · rw [if_pos rfl]
  · rw [if_neg n4, if_neg n3, if_neg n2, if_neg n1]

theorem lnk_back {nx pv : Nat} (h1 : nx < 4294967296 ∧ nx % 32 = 0) (h2 : pv < 4294967296 ∧ pv % 32 = 0) : slN (lnkN nx pv) = nx ∧ slP (lnkN nx pv) = pv := by
  unfold slN slP lnkN; omega
/-- A slot that was laid is loaded. -/
theorem ld_back {S x : Nat} (hE : sE S x = 0) (hS : S % 4096 = 0) (f : Nat → Nat) {k a b r g s m nx pv d : Nat} (hR : Rt k a b r g s m) (hc : cB k a b r g s m = true) (h1 : nx < 4294967296 ∧ nx % 32 = 0) (h2 : pv < 4294967296 ∧ pv % 32 = 0) (hd : d ≤ 4096) :
    ldV S (stF f S x (wordN k a b r g s) m (lnkN nx pv) d) x = #[.int .i64 (k : Nat), .int .u64 (a : Nat), .int .i64 (b : Nat), .int .i64 (r : Nat), .int .i64 (g : Nat), .int .i64 (s : Nat), .int .u64 (m : Nat), .int .u64 (nx : Nat), .int .u64 (pv : Nat), .int .i64 (d : Nat)] ∧ ldE S (stF f S x (wordN k a b r g s) m (lnkN nx pv) d) x = 0 := by
  obtain ⟨q0, q1, q2, q3, -⟩ := four hE hS f (wordN k a b r g s) m (lnkN nx pv) d
  obtain ⟨e1, e2, e3, e4, e5, e6⟩ := rd_word hR
  obtain ⟨l1, l2⟩ := lnk_back h1 h2
  unfold ldV ldE
  rw [if_pos hE, if_pos hE, q0, q1, q2, q3]
  have hk : okS (wordN k a b r g s) m (lnkN nx pv) d = true := by
    unfold okS rdOK
    rw [e1, e2, e3, e4, e5, e6, l1, l2, hc, decide_eq_true hd]; simp
  unfold slV slE
  rw [hk, if_pos rfl, if_pos rfl, e1, e2, e3, e4, e5, e6, l1, l2]
  exact ⟨rfl, rfl⟩
theorem sl_zero : slV 0 0 0 0 = #[.int .i64 0, .int .u64 0, .int .i64 0, .int .i64 0, .int .i64 0, .int .i64 0, .int .u64 0, .int .u64 0, .int .u64 0, .int .i64 0] ∧ slE 0 0 0 0 = 0 := by
  have h : okS 0 0 0 0 = true := by decide +kernel
  unfold slV slE
  rw [h, if_pos rfl, if_pos rfl]
  exact ⟨rfl, rfl⟩
theorem ld_zero {S x : Nat} (hE : sE S x = 0) {f : Nat → Nat} (h0 : f x = 0) (h1 : f (x + 8) = 0) (h2 : f (x + 16) = 0) (h3 : f (x + 24) = 0) : ldV S f x = #[.int .i64 0, .int .u64 0, .int .i64 0, .int .i64 0, .int .i64 0, .int .i64 0, .int .u64 0, .int .u64 0, .int .u64 0, .int .i64 0] ∧ ldE S f x = 0 := by
  unfold ldV ldE
  rw [if_pos hE, if_pos hE, h0, h1, h2, h3]
  exact sl_zero
theorem rt0 : Rt 0 0 0 0 0 0 0 := ⟨by decide, by decide, by decide, by decide, by decide, by decide, by decide, by decide⟩
theorem cB0 : cB 0 0 0 0 0 0 0 = true := by decide +kernel

set_option maxHeartbeats 2000000 in
theorem wipe_ok {w : World} {X : Nat → Prop} {ad S n : Nat} {f : Nat → Nat} (h : MemAt w X ad S n f) (hn : n + 4 < 100000000) (x : Nat) (hx : x < 18446744073709551616) (hE : sE S x = 0) (hP : SPrts w) :
    Calls Tryd.prog 33 #[.pointer (some ⟨ad, 0, none⟩), .int .u64 x] w fun e w' => e = .returned (.int .i64 0) ∧ Wst w X ad S (n + 4) (stF f S x 0 0 0 0) w' := by
  have c := store_ok h hn x hx hE hP (nx := 0) (pv := 0) (d := 0) rt0 cB0 (by decide) (by decide) (by decide)
  have c2 : Calls Tryd.prog 52 #[.pointer (some ⟨ad, 0, none⟩), .int .u64 x, .agg #[.int .i64 0, .int .u64 0, .int .i64 0, .int .i64 0, .int .i64 0, .int .i64 0, .int .u64 0, .int .u64 0, .int .u64 0, .int .i64 0]] w fun e w' => e = .returned (.int .i64 0) ∧ Wst w X ad S (n + 4) (stF f S x 0 0 0 0) w' := c
  have HW := Hid.mk h
  clear c h hE hP
  go_enter Tryd.func33, Tryd.ntmps33
  go_wp2_with fail
  refine c2.mono ?_
  rintro e w1 ⟨rfl, hb⟩
  have HH := Hid.mk hb
  clear hb
  go_wp2
  go_ret
  exact ⟨rfl, HH.out⟩

/-- A block of ours through another memory's doings. -/
theorem turn_row {w W : World} {Y : Nat → Prop} {g : Nat} {o : Obj} (ht : Turn Y w W) (h : w.heap[g]? = some o) (hn : ¬ Y g) : W.heap[g]? = some o := (ht.block _ (block_lt h) hn).trans h
end Go.Proofs.YtcmndefjmhcbhaaDoor
