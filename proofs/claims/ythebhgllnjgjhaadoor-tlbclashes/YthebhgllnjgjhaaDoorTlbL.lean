/- The anchor of layer 7's statements: the document's example. -/
import Derived.Test.YthebhgllnjgjhaaDoorTlbI
import Derived.Test.YthebhgllnjgjhaaDoorTlbJ
import Derived.Deep.DeepCutAuto
namespace Go.Proofs.YthebhgllnjgjhaaDoor
open Go.RowKit

/-- A buffer that was made behind w0. -/
def LBuf (w0 w : World) (t : Nat) (most : Int) (l : List En) : Prop := ∃ X, Buf w X t most l ∧ (∀ i, X i → w0.heap.size ≤ i) ∧ Below w0.heap.size w0 w
theorem LBuf.later {w0 w w' : World} {t : Nat} {most : Int} {l : List En} (h : LBuf w0 w t most l) (hb : Below w.heap.size w w') : LBuf w0 w' t most l := by
  obtain ⟨X, h1, h2, h3⟩ := h
  exact ⟨X, h1.later hb, h2, below_tr h3 hb⟩
theorem LBuf.bel {w0 w : World} {t : Nat} {most : Int} {l : List En} (h : LBuf w0 w t most l) : Below w0.heap.size w0 w := by
  obtain ⟨X, h1, h2, h3⟩ := h
  exact h3
theorem fill_l {w0 w : World} {t : Nat} {most : Int} {l : List En} (e : En) (he : e.ok) (h : LBuf w0 w t most l) (hn : l.length ≤ 999) (hF : Flds w0) :
    Calls Tryd.prog 11 #[.pointer (some ⟨t, 0, none⟩), e.v] w fun r w' => r = .returned (.int .i64 (fillN e)) ∧ LBuf w0 w' t most (fillL l most e) := by
  obtain ⟨X, h1, h2, h3⟩ := h
  refine (fill_c e he h1 hn (hF.later h3)).mono ?_
  rintro r w' ⟨rfl, hb, ht⟩
  refine ⟨rfl, Xp X w w', hb, fun i hi => ?_, h3.trans (ht.below h2 h3.size)⟩
  rcases hi with hi | hi
  · exact h2 i hi
  · exact Nat.le_trans h3.size hi.1
theorem find_l {w0 w : World} {t : Nat} {most : Int} {l : List En} (h : LBuf w0 w t most l) (hn : l.length ≤ 1000) (i0 : Int) (x : Nat) (hx : x < 18446744073709551616) :
    Calls Tryd.prog 14 #[.pointer (some ⟨t, 0, none⟩), .int .i64 i0, .int .u64 x] w fun r w' => r = .returned (.tuple #[(fndE (fun e => mB e i0 x) l).v, .int .i64 ((cntE (fun e => mB e i0 x) l : Nat) : Int)]) ∧ Below w.heap.size w w' := by
  obtain ⟨X, h1, -⟩ := h
  exact find_c h1 hn i0 x hx
theorem list_l {w0 w : World} {t : Nat} {most : Int} {l : List En} (h : LBuf w0 w t most l) (hn : l.length ≤ 1000) :
    Calls Tryd.prog 12 #[.pointer (some ⟨t, 0, none⟩)] w fun r w' => ∃ ad cap, r = .returned (.slice ad l.length cap) ∧ RdA w' ad l ∧ (∀ b, ad = some b → w.heap.size ≤ b.block) ∧ Below w.heap.size w w' := by
  obtain ⟨X, h1, -⟩ := h
  exact list_c h1 hn
theorem new_l (m : Int) (h1 : 1 ≤ m) (h2 : m ≤ 64) (w : World) :
    Calls Tryd.prog 8 #[.int .i64 m] w fun r w' => ∃ t, r = .returned (.tuple #[.pointer (some ⟨t, 0, none⟩), .int .i64 0]) ∧ LBuf w w' t m [] :=
  (new_ok m h1 h2 w).mono fun _ _ ⟨h3, h4, h5⟩ => ⟨_, h3, _, h5, fun _ hi => Nat.le_of_eq hi.symm, h4⟩

def pgE (i : Int) (o : Nat) : En := ⟨i, 12288, 3, 3, o, false, false, false, true, 0⟩
set_option maxHeartbeats 1000000 in
theorem page_c (i : Int) (o : Nat) (w : World) :
    Calls Tryd.prog 23 #[.int .i64 i, .int .u64 o] w fun r w' => r = .returned (pgE i o).v ∧ Below w.heap.size w w' := by
  go_enter Tryd.func23, Tryd.ntmps23
  go_wp2
  refine bodyPost_ret (v := (pgE i o).v) ?_ rfl ⟨rfl, below_new _ _⟩
  exact results_cell_row rfl _ _ w.heap.size 33 _ _ _ rfl (heap_alloc_new _ _) Tryd.underlying33 rfl (by kernel_rfl)

def p1 : En := pgE 1 20480
def p2 : En := pgE 1 24576

set_option maxHeartbeats 8000000 in
set_option maxRecDepth 100000 in
theorem tanchor_any (w : World) (hF : Flds w) :
    Calls Tryd.prog 7 #[] w fun r w' => r = .returned (.bool true) ∧ Below w.heap.size w w' := by
  have HF := Hid.mk hF
  have f1 : fillL [] 3 p1 = [p1] := by kernel_rfl
  have f2 : fillL [p1] 3 p2 = [p1, p2] := by kernel_rfl
  have f3 : fillL [p1, p2] 3 p1 = [p1, p2] := by kernel_rfl
  have n1 : fillN p1 = 0 := by decide +kernel
  have n2 : fillN p2 = 0 := by decide +kernel
  have g1 : fndE (fun e => mB e 1 12296) [p1, p2] = p1 := by kernel_rfl
  have g2 : cntE (fun e => mB e 1 12296) [p1, p2] = 2 := by decide +kernel
  have g3 : fndE (fun e => mB e 2 12296) [p1, p2] = e0 := by kernel_rfl
  have g4 : cntE (fun e => mB e 2 12296) [p1, p2] = 0 := by decide +kernel
  have HC1 : Hid (∀ w1 t, LBuf w w1 t 3 [] → Calls Tryd.prog 11 #[.pointer (some ⟨t, 0, none⟩), .agg #[.int .i64 1, .int .u64 12288, .int .i64 3, .int .i64 3, .int .u64 20480, .bool false, .bool false, .bool false, .bool true, .int .i64 0]] w1 fun r w' => r = .returned (.int .i64 0) ∧ LBuf w w' t 3 [p1]) := fun w1 t h => by
    have := fill_l p1 ⟨by decide, by decide⟩ h (by decide) hF
    rw [f1, n1] at this; exact this
  have HC2 : Hid (∀ w1 t, LBuf w w1 t 3 [p1] → Calls Tryd.prog 11 #[.pointer (some ⟨t, 0, none⟩), .agg #[.int .i64 1, .int .u64 12288, .int .i64 3, .int .i64 3, .int .u64 24576, .bool false, .bool false, .bool false, .bool true, .int .i64 0]] w1 fun r w' => r = .returned (.int .i64 0) ∧ LBuf w w' t 3 [p1, p2]) := fun w1 t h => by
    have := fill_l p2 ⟨by decide, by decide⟩ h (by decide) hF
    rw [f2, n2] at this; exact this
  have HC3 : Hid (∀ w1 t, LBuf w w1 t 3 [p1, p2] → Calls Tryd.prog 11 #[.pointer (some ⟨t, 0, none⟩), .agg #[.int .i64 1, .int .u64 12288, .int .i64 3, .int .i64 3, .int .u64 20480, .bool false, .bool false, .bool false, .bool true, .int .i64 0]] w1 fun r w' => r = .returned (.int .i64 0) ∧ LBuf w w' t 3 [p1, p2]) := fun w1 t h => by
    have := fill_l p1 ⟨by decide, by decide⟩ h (by decide) hF
    rw [f3, n1] at this; exact this
  have HC4 : Hid (∀ w1 t, LBuf w w1 t 3 [p1, p2] → Calls Tryd.prog 14 #[.pointer (some ⟨t, 0, none⟩), .int .i64 1, .int .u64 12296] w1 fun r w' => r = .returned (.tuple #[.agg #[.int .i64 1, .int .u64 12288, .int .i64 3, .int .i64 3, .int .u64 20480, .bool false, .bool false, .bool false, .bool true, .int .i64 0], .int .i64 2]) ∧ Below w1.heap.size w1 w') := fun w1 t h => by
    have := find_l h (by decide) 1 12296 (by omega)
    rw [g1, g2] at this; exact this
  have HC5 : Hid (∀ w1 t, LBuf w w1 t 3 [p1, p2] → Calls Tryd.prog 14 #[.pointer (some ⟨t, 0, none⟩), .int .i64 2, .int .u64 12296] w1 fun r w' => r = .returned (.tuple #[.agg #[.int .i64 0, .int .u64 0, .int .i64 0, .int .i64 0, .int .u64 0, .bool false, .bool false, .bool false, .bool false, .int .i64 0], .int .i64 0]) ∧ Below w1.heap.size w1 w') := fun w1 t h => by
    have := find_l h (by decide) 2 12296 (by omega)
    rw [g3, g4] at this; exact this
  have HC6 : Hid (∀ w1 t, LBuf w w1 t 3 [p1, p2] → Calls Tryd.prog 12 #[.pointer (some ⟨t, 0, none⟩)] w1 fun r w' => ∃ ad cap, r = .returned (.slice ad 2 cap) ∧ Below w1.heap.size w1 w') := fun w1 t h => by
    refine (list_l h (by decide)).mono ?_
    rintro r w' ⟨ad, cap, rfl, -, -, hb⟩
    exact ⟨ad, cap, rfl, hb⟩
  have P1 : ∀ w1, Calls Tryd.prog 23 #[.int .i64 1, .int .u64 20480] w1 fun r w' => r = .returned (.agg #[.int .i64 1, .int .u64 12288, .int .i64 3, .int .i64 3, .int .u64 20480, .bool false, .bool false, .bool false, .bool true, .int .i64 0]) ∧ Below w1.heap.size w1 w' := fun w1 => page_c 1 20480 w1
  have P2 : ∀ w1, Calls Tryd.prog 23 #[.int .i64 1, .int .u64 24576] w1 fun r w' => r = .returned (.agg #[.int .i64 1, .int .u64 12288, .int .i64 3, .int .i64 3, .int .u64 24576, .bool false, .bool false, .bool false, .bool true, .int .i64 0]) ∧ Below w1.heap.size w1 w' := fun w1 => page_c 1 24576 w1
  clear f1 f2 f3 n1 n2 g1 g2 g3 g4 hF HF
  go_enter Tryd.func7, Tryd.ntmps7
  go_wp2_with fail
  refine (new_l 3 (by omega) (by omega) _).mono ?_
  rintro e w1 ⟨t, rfl, h1⟩
  go_wp2_with fail
  refine (P1 _).mono ?_
  rintro e w2 ⟨rfl, hb2⟩
  replace h1 := h1.later hb2
  clear hb2
  go_wp2_with fail
  refine (HC1.out _ _ h1).mono ?_
  rintro e w3 ⟨rfl, h3⟩
  clear h1
  go_wp2_with fail
  refine (P2 _).mono ?_
  rintro e w4 ⟨rfl, hb4⟩
  replace h3 := h3.later hb4
  clear hb4
  go_wp2_with fail
  refine (HC2.out _ _ h3).mono ?_
  rintro e w5 ⟨rfl, h5⟩
  clear h3
  go_wp2_with fail
  refine (P1 _).mono ?_
  rintro e w6 ⟨rfl, hb6⟩
  replace h5 := h5.later hb6
  clear hb6
  go_wp2_with fail
  refine (HC3.out _ _ h5).mono ?_
  rintro e w7 ⟨rfl, h7⟩
  clear h5
  go_wp2_with fail
  refine (HC4.out _ _ h7).mono ?_
  rintro e w8 ⟨rfl, hb8⟩
  have h8 := (h7.later hb8).later (below_new w8 (.cells #[.int .i64 1, .int .u64 12288, .int .i64 3, .int .i64 3, .int .u64 20480, .bool false, .bool false, .bool false, .bool true, .int .i64 0] 33))
  clear h7 hb8
  go_wp2_with fail
  refine (HC5.out _ _ h8).mono ?_
  rintro e w9 ⟨rfl, hb9⟩
  have HK := Hid.mk (block_later (below_tr hb9 (below_new w9 (.cells #[.int .i64 0, .int .u64 0, .int .i64 0, .int .i64 0, .int .u64 0, .bool false, .bool false, .bool false, .bool false, .int .i64 0] 33))) (heap_alloc_new w8 (.cells #[.int .i64 1, .int .u64 12288, .int .i64 3, .int .i64 3, .int .u64 20480, .bool false, .bool false, .bool false, .bool true, .int .i64 0] 33)))
  have H9 := Hid.mk (h8.later (below_tr hb9 (below_new w9 (.cells #[.int .i64 0, .int .u64 0, .int .i64 0, .int .i64 0, .int .u64 0, .bool false, .bool false, .bool false, .bool false, .int .i64 0] 33))))
  clear h8 hb9
  go_upto_region 6 with fail
  generalize w9.alloc (.cells #[.int .i64 0, .int .u64 0, .int .i64 0, .int .i64 0, .int .u64 0, .bool false, .bool false, .bool false, .bool false, .int .i64 0] 33) = wt at *
  obtain ⟨q0, q1, q2, q3, q4, q5, q6, q7, q8, q9⟩ := cells10 HK.out
  generalize w8.heap.size = B8 at *
  clear HC1 HC2 HC3 HC4 HC5 P2
  go_region_held3 (fun w' => w'.cell? ⟨B8, 0, none⟩ = some (.int .i64 1) ∧ w'.cell? ⟨B8, 1, none⟩ = some (.int .u64 12288) ∧ w'.cell? ⟨B8, 2, none⟩ = some (.int .i64 3) ∧ w'.cell? ⟨B8, 3, none⟩ = some (.int .i64 3) ∧ w'.cell? ⟨B8, 4, none⟩ = some (.int .u64 20480) ∧ w'.cell? ⟨B8, 5, none⟩ = some (.bool false) ∧ w'.cell? ⟨B8, 6, none⟩ = some (.bool false) ∧ w'.cell? ⟨B8, 7, none⟩ = some (.bool false) ∧ w'.cell? ⟨B8, 8, none⟩ = some (.bool true) ∧ w'.cell? ⟨B8, 9, none⟩ = some (.int .i64 0) ∧ LBuf w w' t 3 [p1, p2])
    ((go_split_ands; refine ⟨?_, ?_, ?_, ?_, ?_, ?_, ?_, ?_, ?_, ?_, ?_⟩ <;> first | (with_reducible assumption; done) | exact cell_later hbm (by assumption) | exact LBuf.later (by assumption) hbm | exact H9.out | exact H9.out.later (Below.refl _ _).drew | (go_keep; done)))
    (first
      | (go_at_call 23; refine (P1 _).mono ?_; rintro e w' ⟨rfl, hbm⟩)
      | (go_at_call 12; refine (HC6.out _ _ (by go_split_ands; assumption)).mono ?_; rintro e w' ⟨ad, cap, rfl, hbm⟩))
  all_goals go_wp2
  all_goals go_ret
  all_goals exact ⟨rfl, by go_split_ands; exact LBuf.bel (by assumption)⟩

end Go.Proofs.YthebhgllnjgjhaaDoor
