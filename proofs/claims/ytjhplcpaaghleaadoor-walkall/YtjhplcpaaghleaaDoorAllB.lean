/- The search for all leaves, second part: word. -/
import Derived.Test.YtjhplcpaaghleaaDoorAllA
namespace Go.Proofs.YtjhplcpaaghleaaDoor
open Go.RowKit Go.Maps

theorem info_int' : (Tryd.prog.info? 3).map (·.size) = some 1 := by kernel_rfl

set_option maxHeartbeats 1000000 in
theorem word_miss (l : Int) (x va : Nat) (hlv : isLv l = true) (hx : x < 18446744073709551616) {w0 w : World} {a S : Nat} {most : Int} {st : SSt} {v : Value} (h : Srch w0 w a most st v) (hF0 : Flds w0) (hcS : w0.cell? ⟨a, 0, none⟩ = some (.int .u64 (S : Nat))) (hS : S ≤ 4294967296) (sub : Nat → Nat → SSt → Bool × SSt) (hm : mf S l x = 1) :
    Calls Tryd.prog 58 #[.pointer (some ⟨w0.heap.size, 0, none⟩), .int .i64 l, .int .u64 x, .int .u64 va] w fun e w' => ∃ v', e = .returned (.bool (wordS S most l sub x va st).1) ∧ Srch w0 w' a most (wordS S most l sub x va st).2 v' := by
  rw [show wordS S most l sub x va st = (true, st) from if_pos hm]
  obtain ⟨c0, c1, c2, c3⟩ := cells4 h.row
  have HS := Hid.mk h
  have hMe := meaning_any l x hlv hx w (hF0.later h.bel) (cell_later h.bel hcS) hS
  rw [show mD S l x = [.int .i64 0, .int .u64 0, .bool false, .bool false, .bool false, .bool false, .int .i64 0] by unfold mD; rw [hm]; rfl, show mFt S l x = [.int .i64 1, .int .i64 l] by unfold mFt; rw [hm]; rfl] at hMe
  clear h hF0 hcS c1 c2 c3
  go_enter Tryd.func58, Tryd.ntmps58
  go_wp2_with fail
  refine hMe.mono ?_
  rintro e w1 ⟨rfl, hb⟩
  go_wp2
  go_ret
  exact ⟨v, rfl, HS.out.later (below_tr hb (below_tr (below_new _ _) (below_new _ _)))⟩

/-- The search behind one more word. -/
theorem Srch.more {w0 w w' : World} {a : Nat} {most : Int} {st : SSt} {v : Value} (h : Srch w0 w a most st v) (hr : w'.heap[w0.heap.size]? = some (.cells #[.pointer (some ⟨a, 0, none⟩), .int .i64 most, .int .i64 ((st.1 + 1 : Nat) : Int), v] 88 (0, 0))) (ht : Turn (fun i => i = w0.heap.size) w w') : Srch w0 w' a most (st.1 + 1, st.2) v :=
  ⟨hr, h.own.turn ht (Nat.lt_succ_self _), below_turn h.bel ht (Nat.le_refl _)⟩

set_option maxHeartbeats 2000000 in
theorem word_bad (l : Int) (x va : Nat) (hlv : isLv l = true) (hx : x < 18446744073709551616) {w0 w : World} {a S : Nat} {most : Int} {st : SSt} {v : Value} (h : Srch w0 w a most st v) (hF0 : Flds w0) (hcS : w0.cell? ⟨a, 0, none⟩ = some (.int .u64 (S : Nat))) (hS : S ≤ 4294967296) (sub : Nat → Nat → SSt → Bool × SSt) (hm0 : mf S l x ≠ 0) (hm1 : mf S l x ≠ 1) (hst : st.1 ≤ 8192) :
    Calls Tryd.prog 58 #[.pointer (some ⟨w0.heap.size, 0, none⟩), .int .i64 l, .int .u64 x, .int .u64 va] w fun e w' => ∃ v', e = .returned (.bool (wordS S most l sub x va st).1) ∧ Srch w0 w' a most (wordS S most l sub x va st).2 v' := by
  have hW : wordS S most l sub x va st = (inB most (st.1 + 1, st.2), (st.1 + 1, st.2)) := by
    unfold wordS
    rw [if_neg hm1, if_neg (fun c => hm0 c.1), show lookS S l x va st = (st.1 + 1, st.2) by unfold lookS; rw [if_neg (fun c => hm0 c.1)]]
  rw [hW]
  clear hW
  have hst2 : (st.1 : Int) ≤ 8192 := by omega
  obtain ⟨c0, c1, c2, c3⟩ := cells4 h.row
  have HS := Hid.mk h
  have hMe := meaning_any l x hlv hx w (hF0.later h.bel) (cell_later h.bel hcS) hS
  rw [show mD S l x = [.int .i64 0, .int .u64 0, .bool false, .bool false, .bool false, .bool false, .int .i64 0] by unfold mD; rw [if_neg hm0]; rfl, show mFt S l x = [.int .i64 (mf S l x), .int .i64 l] by unfold mFt; rw [if_neg hm0]] at hMe
  generalize mf S l x = m at *
  clear h hF0 hcS c1 c2 c3
  go_enter Tryd.func58, Tryd.ntmps58
  go_wp2_with fail
  refine hMe.mono ?_
  rintro e w1 ⟨rfl, hb⟩
  have HS1 := Hid.mk (HS.out.later (below_tr hb (below_tr (below_new w1 (.cells #[.int .i64 0, .int .u64 0, .bool false, .bool false, .bool false, .bool false, .int .i64 0] 33)) (below_new _ (.cells #[.int .i64 m, .int .i64 l] 37)))))
  have K9 := Hid.mk (heap_alloc2_old w1 (.cells #[.int .i64 0, .int .u64 0, .bool false, .bool false, .bool false, .bool false, .int .i64 0] 33) (.cells #[.int .i64 m, .int .i64 l] 37))
  have K10 := Hid.mk (heap_alloc2_new w1 (.cells #[.int .i64 0, .int .u64 0, .bool false, .bool false, .bool false, .bool false, .int .i64 0] 33) (.cells #[.int .i64 m, .int .i64 l] 37))
  have hn9 : w1.heap.size ≠ w0.heap.size := Nat.ne_of_gt (Nat.lt_of_lt_of_le (block_lt HS.out.row) hb.size)
  have hn10 : w1.heap.size + 1 ≠ w0.heap.size := by have := Nat.lt_of_lt_of_le (block_lt HS.out.row) hb.size; omega
  clear hb hMe HS hst
  go_upto_region 2 with fail
  generalize (w1.alloc (.cells #[.int .i64 0, .int .u64 0, .bool false, .bool false, .bool false, .bool false, .int .i64 0] 33)).alloc (.cells #[.int .i64 m, .int .i64 l] 37) = w2 at *
  obtain ⟨b0, b1, -, -⟩ := row2_facts K10.out
  obtain ⟨-, -, c2, -⟩ := cells4 HS1.out.row
  go_wp2_with (first
    | (refine wpList_store_segTo rfl 3 _ _ rfl rfl w0.heap.size 2 (.int .i64 ((st.1 + 1 : Nat) : Int)) #[.int .i64 ((st.1 + 1 : Nat) : Int)] rfl rfl rfl 88 _ HS1.out.row (show 2 + 1 ≤ 4 by decide) info_int' (by simp [Value.oneCell']) #[.pointer (some ⟨a, 0, none⟩), .int .i64 most, .int .i64 ((st.1 + 1 : Nat) : Int), v] rfl ?_
       intro w3 r3 ht
       have HS3 := Hid.mk (HS1.out.more r3 ht)
       obtain ⟨⟨m0, -⟩, -⟩ := cells7 (block_turn ht K9.out hn9)
       obtain ⟨b0, b1, -, -⟩ := row2_facts (block_turn ht K10.out hn10)
       clear ht r3 HS1 K9 K10 c2)
    | fail)
  refine (within_c HS3.out).mono ?_
  rintro e w4 ⟨rfl, hd⟩
  go_wp2
  go_ret
  exact ⟨v, rfl, HS3.out.later (below_drewN hd)⟩
end Go.Proofs.YtjhplcpaaghleaaDoor
