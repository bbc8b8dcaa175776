/- The search for all leaves, fourth part: word, at a leaf. -/
import Derived.Test.YtjhplcpaaghleaaDoorAllC
import Derived.Deep.RegionLaw
namespace Go.Proofs.YtjhplcpaaghleaaDoor
open Go.RowKit Go.Maps

theorem info_map : (Tryd.prog.info? 63).map (fun i => (i.zero, i.size, i.bytes)) = some (some (.agg #[.int .u64 0, .int .i64 0, .int .i64 0, .int .u64 0, .bool false, .bool false, .bool false, .bool false, .int .i64 0]), 9, 48) := by kernel_rfl

/-- The search behind one more leaf. -/
theorem Srch.push {w0 w w4 : World} {a n1 : Nat} {most : Int} {L : List (Nat × Int × Nat)} {v v' : Value} {q : Nat × Int × Nat} {o : Obj} (h : Srch w0 w a most (n1, L) v) (hg : (w.alloc o).drew.grownBy w4 v.ownBlock) (hown : OwnM w4 (w0.heap.size + 1) v' (L ++ [q])) :
    Srch w0 (w4.setCell ⟨w0.heap.size, 3, none⟩ v') a most (n1, L ++ [q]) v' := by
  have hlt : ∀ j, v.ownBlock = some j → w0.heap.size + 1 ≤ j ∧ j < w.heap.size := World.ownsRow.lt h.own
  have h2 : (w.alloc o).drew.heap[w0.heap.size]? = _ := block_later (below_new w o).drew h.row
  have hr : w4.heap[w0.heap.size]? = _ := (hg.block _ (block_lt h2) (fun c => by have := (hlt _ c.symm).1; omega)).trans h2
  refine ⟨?_, ?_, ?_⟩
  · have := heap_setCell_same w4 w0.heap.size 3 _ _ v' hr
    exact this
  · exact hown.kept (fun g h1 _ => heap_setCell_other _ _ _ _ (fun c : g = w0.heap.size => by omega))
  · have hs := h.bel.size
    exact (((h.bel.alloc hs o).drew).grown hg (show w0.heap.size ≤ (w.alloc o).heap.size by simp; omega) (fun q hq => Nat.le_of_succ_le (hlt q hq).1)).setCell (Nat.le_refl _) _

set_option maxHeartbeats 4000000 in
theorem word_leaf (l : Int) (x va : Nat) (hlv : isLv l = true) (hx : x < 18446744073709551616) {w0 w : World} {a S : Nat} {most : Int} {st : SSt} {v : Value} (h : Srch w0 w a most st v) (hF0 : Flds w0) (hcS : w0.cell? ⟨a, 0, none⟩ = some (.int .u64 (S : Nat))) (hS : S ≤ 4294967296) (sub : Nat → Nat → SSt → Bool × SSt) (hm : mf S l x = 0) (hk : rdK l x ≠ 1) (hst : st.1 ≤ 8192) (hle : st.2.length ≤ st.1) :
    Calls Tryd.prog 58 #[.pointer (some ⟨w0.heap.size, 0, none⟩), .int .i64 l, .int .u64 x, .int .u64 va] w fun e w' => ∃ v', e = .returned (.bool (wordS S most l sub x va st).1) ∧ Srch w0 w' a most (wordS S most l sub x va st).2 v' := by
  have hW : wordS S most l sub x va st = (inB most (st.1 + 1, st.2 ++ [(va, l, x)]), (st.1 + 1, st.2 ++ [(va, l, x)])) := by
    unfold wordS
    rw [if_neg (by rw [hm]; decide), if_neg (fun c => hk c.2), show lookS S l x va st = (st.1 + 1, st.2 ++ [(va, l, x)]) by unfold lookS; rw [if_pos ⟨hm, hk⟩]]
  rw [hW]
  clear hW
  have HQ : Hid (mcs [(va, l, x)] = [.int .u64 (va : Nat), .int .i64 l, .int .i64 (rdK l x), .int .u64 (rdO x : Nat), .bool (rdU l x), .bool (rdR l x), .bool (rdX l x), .bool (rdS l x), .int .i64 (rdA l x)]) := rfl
  have hst2 : (st.1 : Int) ≤ 8192 := by omega
  obtain ⟨i0, hi0, hz0, hz1, hz2⟩ := info_parts info_map
  have HI := Hid.mk (And.intro hi0 (And.intro hz0 (And.intro hz1 hz2)))
  clear hi0 hz0 hz1 hz2
  obtain ⟨c0, c1, c2, c3⟩ := cells4 h.row
  have HS := Hid.mk h
  have hMe := meaning_any l x hlv hx w (hF0.later h.bel) (cell_later h.bel hcS) hS
  rw [show mD S l x = [.int .i64 (rdK l x), .int .u64 (rdO x : Nat), .bool (rdU l x), .bool (rdR l x), .bool (rdX l x), .bool (rdS l x), .int .i64 (rdA l x)] by unfold mD; rw [if_pos hm]; rfl, show mFt S l x = [.int .i64 0, .int .i64 0] by unfold mFt; rw [if_pos hm]; rfl] at hMe
  clear hx
  generalize rdK l x = kk at *
  generalize rdO x = oo at *
  generalize rdU l x = eU at *
  generalize rdR l x = eR at *
  generalize rdX l x = eX at *
  generalize rdS l x = eS at *
  generalize rdA l x = eA at *
  clear h hF0 hcS c1 c2 c3
  go_enter Tryd.func58, Tryd.ntmps58
  go_wp2_with fail
  refine hMe.mono ?_
  rintro e w1 ⟨rfl, hb⟩
  have HS1 := Hid.mk (HS.out.later (below_tr hb (below_tr (below_new w1 (.cells #[.int .i64 kk, .int .u64 (oo : Nat), .bool eU, .bool eR, .bool eX, .bool eS, .int .i64 eA] 33)) (below_new _ (.cells #[.int .i64 0, .int .i64 0] 37)))))
  have K9 := Hid.mk (heap_alloc2_old w1 (.cells #[.int .i64 kk, .int .u64 (oo : Nat), .bool eU, .bool eR, .bool eX, .bool eS, .int .i64 eA] 33) (.cells #[.int .i64 0, .int .i64 0] 37))
  have K10 := Hid.mk (heap_alloc2_new w1 (.cells #[.int .i64 kk, .int .u64 (oo : Nat), .bool eU, .bool eR, .bool eX, .bool eS, .int .i64 eA] 33) (.cells #[.int .i64 0, .int .i64 0] 37))
  have hn9 : w1.heap.size ≠ w0.heap.size := Nat.ne_of_gt (Nat.lt_of_lt_of_le (block_lt HS.out.row) hb.size)
  have hn10 : w1.heap.size + 1 ≠ w0.heap.size := by have := Nat.lt_of_lt_of_le (block_lt HS.out.row) hb.size; omega
  have HAG9 : Hid (v.ownBlock ≠ some w1.heap.size) := fun e => by have := (World.ownsRow.lt HS.out.own _ e).2; have := hb.size; omega
  clear hb hMe HS
  go_upto_region 2 with fail
  generalize (w1.alloc (.cells #[.int .i64 kk, .int .u64 (oo : Nat), .bool eU, .bool eR, .bool eX, .bool eS, .int .i64 eA] 33)).alloc (.cells #[.int .i64 0, .int .i64 0] 37) = w2 at *
  obtain ⟨b0, b1, -, -⟩ := row2_facts K10.out
  obtain ⟨-, -, c2, -⟩ := cells4 HS1.out.row
  go_wp2_with (first
    | (refine wpList_store_segTo rfl 3 _ _ rfl rfl w0.heap.size 2 (.int .i64 ((st.1 + 1 : Nat) : Int)) #[.int .i64 ((st.1 + 1 : Nat) : Int)] rfl rfl rfl 88 _ HS1.out.row (show 2 + 1 ≤ 4 by decide) info_int' (by simp [Value.oneCell']) #[.pointer (some ⟨a, 0, none⟩), .int .i64 most, .int .i64 ((st.1 + 1 : Nat) : Int), v] rfl ?_
       intro w3 r3 ht
       have HS3 := Hid.mk (HS1.out.more r3 ht)
       have K9' := Hid.mk (block_turn ht K9.out hn9)
       obtain ⟨⟨m0, m1, m2, m3, m4, m5, m6⟩, -⟩ := cells7 K9'.out
       obtain ⟨b0, b1, -, -⟩ := row2_facts (block_turn ht K10.out hn10)
       clear ht r3 HS1 K9 K10 c2)
    | fail)
  obtain ⟨-, -, -, c3⟩ := cells4 HS3.out.row
  have f3 : w3.frozen? ⟨w0.heap.size, 3, none⟩ = false := frozen_of_row _ _ _ _ _ HS3.out.row
  have c3a := fun o => cell_later (below_new w3 o) c3
  have hlt3 := block_lt HS3.out.row
  have hown := HS3.out.own
  have ag : v.ownBlock ≠ some w0.heap.size := fun e => by have := (World.ownsRow.lt hown _ e).1; omega
  have hbig : st.2.length + 1 ≤ maxLen := by unfold maxLen; omega
  have hby : (st.2.length + 1) * 48 ≤ 140737488355328 := by omega
  have HBIG := Hid.mk (And.intro hbig hby)
  have HK := Hid.mk hk
  have HLT := Hid.mk hlt3
  have HOWN := Hid.mk hown
  have HAG := Hid.mk ag
  clear hbig hby hst hle hlt3 hown ag hm
  go_region_law
    ((refine step_append_lies _ (by rfl) _ _ _ (by rfl) (w0.heap.size + 1) 63 i0 _ 9 48 Tryd.underlying59 HI.out.1 HI.out.2.1 HI.out.2.2.1 HI.out.2.2.2 rfl (by omega) v st.2.length (mcs st.2) (by rfl) ((World.ownsRow.alloc HOWN.out _).drew)
        ⟨w3.heap.size, 0, none⟩ 1 1 [.int .u64 (va : Nat), .int .i64 l, .int .i64 kk, .int .u64 (oo : Nat), .bool eU, .bool eR, .bool eX, .bool eS, .int .i64 eA] (by rfl) (by rfl) (World.news_of_block (cs := #[.int .u64 (va : Nat), .int .i64 l, .int .i64 kk, .int .u64 (oo : Nat), .bool eU, .bool eR, .bool eX, .bool eS, .int .i64 eA]) (t := 63) (fr := (0, 0)) (heap_alloc_new w3 _)) (by simp [Value.oneCell'])
        (by omega) HBIG.out.1 HBIG.out.2 (by have := HLT.out; simp; omega) (w3.heap.size + 1) (by simp) ?_; intro g cap w4 hown4 hgrow hat' hlt'; have k3 := (hgrow.cell_far ⟨w0.heap.size, 3, none⟩ (by have := HLT.out; show w0.heap.size < (w3.heap.push _).size; simp; omega) (fun c => HAG.out c.symm)).trans (c3a _); have j3 := (hgrow.frozen_far ⟨w0.heap.size, 3, none⟩ (by have := HLT.out; show w0.heap.size < (w3.heap.push _).size; simp; omega) (fun c => HAG.out c.symm)).trans (frozen_of_row _ _ _ _ _ (block_later (below_new w3 _).drew HS3.out.row)); have k9 := (hgrow.cell_far ⟨w1.heap.size, 0, none⟩ (by have := block_lt K9'.out; show w1.heap.size < (w3.heap.push _).size; simp; omega) (fun c => HAG9.out c.symm)).trans (cell_later (below_new w3 _).drew m0)))
  all_goals
    have hownQ : OwnM w4 (w0.heap.size + 1) (.slice (some ⟨g, 0, none⟩) (st.2.length + 1) cap) (st.2 ++ [(va, l, x)]) := by
      show w4.ownsRow _ _ _ _ (st.2 ++ [(va, l, x)]).length (mcs (st.2 ++ [(va, l, x)]))
      rw [mcs_append, HQ.out, List.length_append]
      exact hown4
    have HS5 := Hid.mk (HS3.out.push hgrow hownQ)
    clear hownQ
    go_wp2_with fail
    first
      | refine (within_c HS5.out).mono ?_
      | refine (within_c (HS5.out.later (Below.refl _ _).drew)).mono ?_
    rintro e w6 ⟨rfl, hd⟩
    go_wp2
    go_ret
    first
      | exact ⟨_, rfl, HS5.out.later (below_drewN hd)⟩
      | exact ⟨_, rfl, HS5.out.later (below_tr (Below.refl _ _).drew (below_drewN hd))⟩
end Go.Proofs.YtjhplcpaaghleaaDoor
