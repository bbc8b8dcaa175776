/- The anchor of layer 8's statements: the document's example. -/
import Derived.Test.YtdpcbdbdacjcbaaDoorTrI
import Derived.Test.YtdpcbdbdacjcbaaDoorTrJ
import Derived.Test.YtdpcbdbdacjcbaaDoorTrW
import Derived.Deep.DeepCutAuto
namespace Go.Proofs.YtdpcbdbdacjcbaaDoor.TR
open Go.RowKit

/-- A buffer that was made behind w0. -/
def LBuf (w0 w : World) (t : Nat) (most : Int) (l : List En) : Prop := ∃ X, Buf w X t most l ∧ (∀ i, X i → w0.heap.size ≤ i) ∧ Below w0.heap.size w0 w
theorem LBuf.later {w0 w w' : World} {t : Nat} {most : Int} {l : List En} (h : LBuf w0 w t most l) (hb : Below w.heap.size w w') : LBuf w0 w' t most l := by
  obtain ⟨X, h1, h2, h3⟩ := h
  exact ⟨X, h1.later hb, h2, below_tr h3 hb⟩
theorem LBuf.bel {w0 w : World} {t : Nat} {most : Int} {l : List En} (h : LBuf w0 w t most l) : Below w0.heap.size w0 w := by
  obtain ⟨X, h1, h2, h3⟩ := h
  exact h3
theorem fill_l {w0 w : World} {t : Nat} {most : Int} {l : List En} (e : En) (he : e.ok) (h : LBuf w0 w t most l) (hn : l.length ≤ 999) (hF : Flds w0) :
    Calls Tryd.prog 16 #[.pointer (some ⟨t, 0, none⟩), e.v] w fun r w' => r = .returned (.int .i64 (fillN e)) ∧ LBuf w0 w' t most (fillL l most e) := by
  obtain ⟨X, h1, h2, h3⟩ := h
  refine (fill_c e he h1 hn (hF.later h3)).mono ?_
  rintro r w' ⟨rfl, hb, ht⟩
  refine ⟨rfl, Xp X w w', hb, fun i hi => ?_, h3.trans (ht.below h2 h3.size)⟩
  rcases hi with hi | hi
  · exact h2 i hi
  · exact Nat.le_trans h3.size hi.1
theorem best_l {w0 w : World} {t : Nat} {most : Int} {l : List En} (h : LBuf w0 w t most l) (hn : l.length ≤ 1000) (i0 : Int) (x : Nat) (hx : x < 18446744073709551616) :
    Calls Tryd.prog 14 #[.pointer (some ⟨t, 0, none⟩), .int .i64 i0, .int .u64 x] w fun r w' => r = .returned (.tuple #[(bstE (fun e => mB e i0 x) l).v, .bool (decide (1 ≤ (bstE (fun e => mB e i0 x) l).lv))]) ∧ Below w.heap.size w w' := by
  obtain ⟨X, h1, -⟩ := h
  exact best_c h1 hn i0 x hx
theorem list_l {w0 w : World} {t : Nat} {most : Int} {l : List En} (h : LBuf w0 w t most l) (hn : l.length ≤ 1000) :
    Calls Tryd.prog 9 #[.pointer (some ⟨t, 0, none⟩)] w fun r w' => ∃ ad cap, r = .returned (.slice ad l.length cap) ∧ RdA w' ad l ∧ (∀ b, ad = some b → w.heap.size ≤ b.block) ∧ Below w.heap.size w w' := by
  obtain ⟨X, h1, -⟩ := h
  exact list_c h1 hn
theorem new_l (m : Int) (h1 : 1 ≤ m) (h2 : m ≤ 64) (w : World) :
    Calls Tryd.prog 7 #[.int .i64 m] w fun r w' => ∃ t, r = .returned (.tuple #[.pointer (some ⟨t, 0, none⟩), .int .i64 0]) ∧ LBuf w w' t m [] :=
  (new_ok m h1 h2 w).mono fun _ _ ⟨h3, h4, h5⟩ => ⟨_, h3, _, h5, fun _ hi => Nat.le_of_eq hi.symm, h4⟩

/-- The words of the example. -/
def ancV (i : Nat) : Nat := [8195, 12291, 16387, 0].getD i 0
def k1 : En := ⟨1, 0, 1, 8192⟩
def k2 : En := ⟨1, 0, 2, 12288⟩
def k3 : En := ⟨1, 0, 3, 16384⟩
theorem anc_k {k : Nat} (h0 : k ≤ 4) (h1 : ∀ j : Nat, j < k → isT (0 + j) (ancV j) = true) (h2 : k < 4 → isT (0 + k) (ancV k) = false) : k = 3 := by
  have e0 : isT (0 + ((0 : Nat) : Int)) (ancV 0) = true := by decide +kernel
  have e1 : isT (0 + ((1 : Nat) : Int)) (ancV 1) = true := by decide +kernel
  have e2 : isT (0 + ((2 : Nat) : Int)) (ancV 2) = true := by decide +kernel
  have e3 : isT (0 + ((3 : Nat) : Int)) (ancV 3) = false := by decide +kernel
  have hk : k = 0 ∨ k = 1 ∨ k = 2 ∨ k = 3 ∨ k = 4 := by omega
  rcases hk with rfl | rfl | rfl | rfl | rfl
  · exact absurd (e0.symm.trans (h2 (by decide))) (by decide)
  · exact absurd (e1.symm.trans (h2 (by decide))) (by decide)
  · exact absurd (e2.symm.trans (h2 (by decide))) (by decide)
  · rfl
  · exact absurd ((h1 3 (by decide)).symm.trans e3) (by decide)

set_option maxHeartbeats 1000000 in
set_option maxRecDepth 100000 in
theorem tanchor_any (w : World) (hF : Flds w) :
    Calls Tryd.prog 6 #[] w fun r w' => r = .returned (.bool true) ∧ Below w.heap.size w w' := by
  have hw3 : wdL 9 1 4096 0 ancV [] 3 = [k1, k2, k3] := by kernel_rfl
  have hb3 : bstE (fun e => mB e 1 8191) [k1, k2, k3] = k3 := by kernel_rfl
  have HF := Hid.mk hF
  have HW : Hid (∀ W cap (X : Nat → Prop) t b, Buf W X t 9 [] → StepsAt W (some ⟨b, 0, none⟩) 4 (fun _ => 0) ancV → ¬ X b → (∀ i, X i → w.heap.size ≤ i) → Below w.heap.size w W → Calls Tryd.prog 11 #[.pointer (some ⟨t, 0, none⟩), .int .i64 1, .int .u64 4096, .int .i64 0, .slice (some ⟨b, 0, none⟩) 4 cap] W fun r w' => r = .returned (.int .i64 3) ∧ LBuf w w' t 9 [k1, k2, k3]) := fun W cap X t b h1 h2 h3 h4 h5 => by
    refine (walked_c h1 (by decide) 1 4096 (by decide) 0 (by decide) (by decide) (some ⟨b, 0, none⟩) 4 cap (fun _ => 0) ancV (by decide) h2 (fun a ha => by cases ha; exact h3) (fun W1 ht => hF.later (h5.trans (ht.below h4 h5.size)))).mono ?_
    rintro e w' ⟨k, hk, q1, q2, rfl, hB, ht⟩
    obtain rfl := anc_k hk q1 q2
    rw [hw3] at hB
    refine ⟨rfl, Xp X W w', hB, fun i hi => ?_, h5.trans (ht.below h4 h5.size)⟩
    rcases hi with hi | hi
    · exact h4 i hi
    · exact Nat.le_trans h5.size hi.1
  have HBE : Hid (∀ w1 t, LBuf w w1 t 9 [k1, k2, k3] → Calls Tryd.prog 14 #[.pointer (some ⟨t, 0, none⟩), .int .i64 1, .int .u64 8191] w1 fun r w' => r = .returned (.tuple #[.agg #[.int .i64 1, .int .u64 0, .int .i64 3, .int .u64 16384], .bool true]) ∧ Below w1.heap.size w1 w') := fun w1 t h => by
    have := best_l h (by decide) 1 8191 (by omega)
    rw [hb3] at this; exact this
  have HLI : Hid (∀ w1 t, LBuf w w1 t 9 [k1, k2, k3] → Calls Tryd.prog 9 #[.pointer (some ⟨t, 0, none⟩)] w1 fun r w' => ∃ ad cap, r = .returned (.slice ad 3 cap) ∧ Below w1.heap.size w1 w') := fun w1 t h => by
    refine (list_l h (by decide)).mono ?_
    rintro r w' ⟨ad, cap, rfl, -, -, hb⟩
    exact ⟨ad, cap, rfl, hb⟩
  clear hw3 hb3 hF
  go_enter Tryd.func6, Tryd.ntmps6
  go_wp2_with fail
  refine (new_ok 9 (by omega) (by omega) _).mono ?_
  rintro e w1 ⟨rfl, hb1, hB1⟩
  have hsz := hb1.size
  have hXl := buf_lt hB1
  have HSZ : Hid (w.heap.size < w1.heap.size) := hXl _ rfl
  have HB1 := Hid.mk hB1
  have HBE1 := Hid.mk hb1
  clear hb1 hB1 hXl
  go_wp2_with fail
  have hK := heap_alloc_new w1 (.cells #[.int .u64 0, .int .u64 8195, .int .u64 0, .int .u64 12291, .int .u64 0, .int .u64 16387, .int .u64 0, .int .u64 0] 64)
  have hbl := below_new w1 (.cells #[.int .u64 0, .int .u64 8195, .int .u64 0, .int .u64 12291, .int .u64 0, .int .u64 16387, .int .u64 0, .int .u64 0] 64)
  have hST : StepsAt (w1.alloc (.cells #[.int .u64 0, .int .u64 8195, .int .u64 0, .int .u64 12291, .int .u64 0, .int .u64 16387, .int .u64 0, .int .u64 0] 64)) (some ⟨w1.heap.size, 0, none⟩) 4 (fun _ => 0) ancV := by
    refine ⟨fun i hi => ⟨w1.heap.size, 0, rfl, by simp, ?_, ?_⟩, fun i => by decide, fun i => ?_⟩
    · rw [cell_of_row _ _ _ _ _ _ hK]
      have hk : i = 0 ∨ i = 1 ∨ i = 2 ∨ i = 3 := by omega
      rcases hk with rfl | rfl | rfl | rfl <;> rfl
    · rw [cell_of_row _ _ _ _ _ _ hK]
      have hk : i = 0 ∨ i = 1 ∨ i = 2 ∨ i = 3 := by omega
      rcases hk with rfl | rfl | rfl | rfl <;> rfl
    · unfold ancV
      match i with
      | 0 => decide
      | 1 => decide
      | 2 => decide
      | 3 => decide
      | j + 4 => exact Nat.zero_lt_succ _
  refine (HW.out _ _ _ _ _ (HB1.out.later hbl) hST (by have := HSZ.out; omega) (fun i hi => Nat.le_of_eq hi.symm) (below_tr HBE1.out hbl)).mono ?_
  rintro e w2 ⟨rfl, hL2⟩
  have HL2 := Hid.mk hL2
  clear hL2 hK hbl hST HW HB1 HBE1
  go_wp2_with fail
  refine (HBE.out _ _ HL2.out).mono ?_
  rintro e w3 ⟨rfl, hb3⟩
  have HL3 := Hid.mk (HL2.out.later (below_tr hb3 (below_new w3 (.cells #[.int .i64 1, .int .u64 0, .int .i64 3, .int .u64 16384] 31))))
  clear hb3 HL2 HBE
  have heq := fun W => eqT k3 k3 W
  rw [eqB_true rfl] at heq
  simp only [k3, En.v] at heq
  go_wp2_with fail
  refine (HLI.out _ _ HL3.out).mono ?_
  rintro e w4 ⟨ad, cap, rfl, hb4⟩
  go_wp2
  go_ret
  exact ⟨rfl, (HL3.out.later hb4).bel⟩

end Go.Proofs.YtdpcbdbdacjcbaaDoor.TR
