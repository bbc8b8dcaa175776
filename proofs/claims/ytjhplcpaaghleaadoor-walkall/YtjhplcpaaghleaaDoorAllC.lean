/- The search for all leaves, third part: word, at a table and at a leaf. -/
import Derived.Test.YtjhplcpaaghleaaDoorAllB
namespace Go.Proofs.YtjhplcpaaghleaaDoor
open Go.RowKit Go.Maps

set_option maxHeartbeats 2000000 in
theorem word_tab (l : Int) (x va : Nat) (hlv : isLv l = true) (hx : x < 18446744073709551616) {w0 w : World} {a S : Nat} {most : Int} {st : SSt} {v : Value} (h : Srch w0 w a most st v) (hF0 : Flds w0) (hcS : w0.cell? ⟨a, 0, none⟩ = some (.int .u64 (S : Nat))) (hS : S ≤ 4294967296) (sub : Nat → Nat → SSt → Bool × SSt) (hm : mf S l x = 0) (hk : rdK l x = 1) (hst : st.1 ≤ 8192)
    (hsub : ∀ w1, Srch w0 w1 a most (st.1 + 1, st.2) v → inB most (st.1 + 1, st.2) = true → Calls Tryd.prog 41 #[.pointer (some ⟨w0.heap.size, 0, none⟩), .int .i64 (l + 1), .int .u64 (rdO x : Nat), .int .u64 va] w1 fun e w' => ∃ v', e = .returned (.bool (sub (rdO x) va (st.1 + 1, st.2)).1) ∧ Srch w0 w' a most (sub (rdO x) va (st.1 + 1, st.2)).2 v') :
    Calls Tryd.prog 58 #[.pointer (some ⟨w0.heap.size, 0, none⟩), .int .i64 l, .int .u64 x, .int .u64 va] w fun e w' => ∃ v', e = .returned (.bool (wordS S most l sub x va st).1) ∧ Srch w0 w' a most (wordS S most l sub x va st).2 v' := by
  have hW : wordS S most l sub x va st = (if inB most (st.1 + 1, st.2) = true then sub (rdO x) va (st.1 + 1, st.2) else (false, (st.1 + 1, st.2))) := by
    unfold wordS
    rw [if_neg (by rw [hm]; decide), if_pos ⟨hm, hk⟩, show lookS S l x va st = (st.1 + 1, st.2) by unfold lookS; rw [if_neg (fun c => c.2 hk)]]
  have HWt : Hid (inB most (st.1 + 1, st.2) = true → wordS S most l sub x va st = sub (rdO x) va (st.1 + 1, st.2)) := fun q => by rw [hW, if_pos q]
  have HWf : Hid (inB most (st.1 + 1, st.2) = false → wordS S most l sub x va st = (false, (st.1 + 1, st.2))) := fun q => by rw [hW, if_neg (by rw [q]; decide)]
  generalize wordS S most l sub x va st = R at *
  clear hW
  have hst2 : (st.1 : Int) ≤ 8192 := by omega
  have hl3 := isLv_of hlv
  obtain ⟨hl0, hl1⟩ := hl3
  obtain ⟨c0, c1, c2, c3⟩ := cells4 h.row
  have HS := Hid.mk h
  have hMe := meaning_any l x hlv hx w (hF0.later h.bel) (cell_later h.bel hcS) hS
  rw [show mD S l x = [.int .i64 (rdK l x), .int .u64 (rdO x : Nat), .bool (rdU l x), .bool (rdR l x), .bool (rdX l x), .bool (rdS l x), .int .i64 (rdA l x)] by unfold mD; rw [if_pos hm]; rfl, show mFt S l x = [.int .i64 0, .int .i64 0] by unfold mFt; rw [if_pos hm]; rfl] at hMe
  rw [hk] at hMe
  have HSUB := Hid.mk hsub
  clear hsub hm hk hx
  generalize rdO x = oo at *
  generalize rdU l x = eU at *
  generalize rdR l x = eR at *
  generalize rdX l x = eX at *
  generalize rdS l x = eS at *
  generalize rdA l x = eA at *
  clear h hF0 hcS c1 c2 c3
  go_enter Tryd.func58, Tryd.ntmps58
  go_wp2_with fail
  refine hMe.mono ?_
  rintro e w1 ⟨rfl, hb⟩
  have HS1 := Hid.mk (HS.out.later (below_tr hb (below_tr (below_new w1 (.cells #[.int .i64 1, .int .u64 (oo : Nat), .bool eU, .bool eR, .bool eX, .bool eS, .int .i64 eA] 33)) (below_new _ (.cells #[.int .i64 0, .int .i64 0] 37)))))
  have K9 := Hid.mk (heap_alloc2_old w1 (.cells #[.int .i64 1, .int .u64 (oo : Nat), .bool eU, .bool eR, .bool eX, .bool eS, .int .i64 eA] 33) (.cells #[.int .i64 0, .int .i64 0] 37))
  have K10 := Hid.mk (heap_alloc2_new w1 (.cells #[.int .i64 1, .int .u64 (oo : Nat), .bool eU, .bool eR, .bool eX, .bool eS, .int .i64 eA] 33) (.cells #[.int .i64 0, .int .i64 0] 37))
  have hn9 : w1.heap.size ≠ w0.heap.size := Nat.ne_of_gt (Nat.lt_of_lt_of_le (block_lt HS.out.row) hb.size)
  have hn10 : w1.heap.size + 1 ≠ w0.heap.size := by have := Nat.lt_of_lt_of_le (block_lt HS.out.row) hb.size; omega
  clear hb hMe HS hst
  go_upto_region 2 with fail
  generalize (w1.alloc (.cells #[.int .i64 1, .int .u64 (oo : Nat), .bool eU, .bool eR, .bool eX, .bool eS, .int .i64 eA] 33)).alloc (.cells #[.int .i64 0, .int .i64 0] 37) = w2 at *
  obtain ⟨b0, b1, -, -⟩ := row2_facts K10.out
  obtain ⟨-, -, c2, -⟩ := cells4 HS1.out.row
  go_wp2_with (first
    | (refine wpList_store_segTo rfl 3 _ _ rfl rfl w0.heap.size 2 (.int .i64 ((st.1 + 1 : Nat) : Int)) #[.int .i64 ((st.1 + 1 : Nat) : Int)] rfl rfl rfl 88 _ HS1.out.row (show 2 + 1 ≤ 4 by decide) info_int' (by simp [Value.oneCell']) #[.pointer (some ⟨a, 0, none⟩), .int .i64 most, .int .i64 ((st.1 + 1 : Nat) : Int), v] rfl ?_
       intro w3 r3 ht
       have HS3 := Hid.mk (HS1.out.more r3 ht)
       have K9' := Hid.mk (block_turn ht K9.out hn9)
       obtain ⟨⟨m0, m1, m2, m3, m4, m5, m6⟩, -⟩ := cells7 K9'.out
       obtain ⟨b0, b1, -, -⟩ := row2_facts (block_turn ht K10.out hn10)
       clear ht r3 HS1 K9 K10 c2)
    | fail)
  refine (within_c HS3.out).mono ?_
  rintro e w4 ⟨rfl, hd⟩
  have HS4 := Hid.mk (HS3.out.later (below_drewN hd))
  replace m1 := cell_later (below_drewN hd) m1
  cases hin : inB most (st.1 + 1, st.2)
  · clear m0 m2 m3 m4 m5 m6 b0 b1 hd HSUB HS3 K9'
    go_wp2
    go_ret
    exact ⟨v, by rw [HWf.out (by trivial)]; rfl, by rw [HWf.out (by trivial)]; exact HS4.out⟩
  · have hC := HSUB.out _ HS4.out hin
    clear m0 m2 m3 m4 m5 m6 b0 b1 hd HSUB HS3 K9'
    go_wp2_with fail
    refine hC.mono ?_
    rintro e w5 ⟨v5, rfl, hs5⟩
    go_wp2
    go_ret
    exact ⟨v5, by rw [HWt.out (by trivial)]; rfl, by rw [HWt.out (by trivial)]; exact hs5⟩
end Go.Proofs.YtjhplcpaaghleaaDoor
