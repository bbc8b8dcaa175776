/- Texts: WalkA WalkB -/
import Derived.Test.YtfohjkgheeiinaaGreatDoorQ23
set_option maxHeartbeats 16000000
set_option maxRecDepth 100000
namespace Go.Proofs.YtfohjkgheeiinaaGreatDoor
open Go.RowKit Go.Maps
def isTab (l : Int) (tb : Nat) : Bool := isLv l && alB tb 12
theorem isTable_any (l : Int) (tb : Nat) (ht : tb < 18446744073709551616) (w : World) :
  Calls Tryz.prog 139 #[.int .i64 l, .int .u64 tb] w fun e w' => e = .returned (.bool (isTab l tb)) ∧ w = w' := by
 have hA := fun w => aligned_c tb 12 (Or.inr rfl) ht w
 by_cases h1 : 0 ≤ l
 ·have d1 : decide (0 ≤ l) = true := decide_eq_true h1
  by_cases h2 : l < 4
  ·have d2 : decide (l < 4) = true := decide_eq_true h2
   have HE : Hid (isTab l tb = alB tb 12) := by show isTab l tb = _; unfold isTab isLv; rw [decide_eq_true (by omega)]; rfl
   go_enter Tryz.func139, Tryz.ntmps139
   go_wp2_with (go_at_call 59; refine (hA _).mono ?_; rintro e w' ⟨rfl, rfl⟩)
   go_ret
   exact ⟨by rw [HE.out]; rfl, rfl⟩
  ·have d2 : decide (l < 4) = false := decide_eq_false h2
   have HE : Hid (isTab l tb = false) := by show isTab l tb = _; unfold isTab isLv; rw [decide_eq_false (by omega)]; rfl
   go_enter Tryz.func139, Tryz.ntmps139
   go_wp2
   go_ret
   exact ⟨by rw [HE.out]; rfl, rfl⟩
 ·have d1 : decide (0 ≤ l) = false := decide_eq_false h1
  have HE : Hid (isTab l tb = false) := by show isTab l tb = _; unfold isTab isLv; rw [decide_eq_false (by omega)]; rfl
  go_enter Tryz.func139, Tryz.ntmps139
  go_wp2
  go_ret
  exact ⟨by rw [HE.out]; rfl, rfl⟩
theorem entry_any (tb i : Nat) (hi : i < 512) (ht : tb % 4096 = 0) (hl : tb < 18446744073709551616) (w : World) :
  Calls Tryz.prog 140 #[.int .u64 tb, .int .i64 i] w fun e w' => e = .returned (.int .u64 ((tb + 8 * i : Nat) : Int)) ∧ w = w' := by
 have hb : (tb : Int) + 8 * i < 18446744073709551616 := by omega
 go_enter Tryz.func140, Tryz.ntmps140
 go_wp2
 go_ret
 refine ⟨?_, rfl⟩
 first
  | rfl
  | (congr 2; omega)
  | (congr 2; simp; omega)
def holdsB (S o n : Nat) : Bool := decide (o + 2 ^ n ≤ S)
theorem holds_any {w : World} {a S : Nat} (c0 : w.cell? ⟨a, 0, none⟩ = some (.int .u64 S)) (hS : S ≤ 4294967296) (o n : Nat) (ho : o < 18446744073709551616) (hn : n = 12 ∨ n = 21 ∨ n = 30 ∨ n = 39) :
  Calls Tryz.prog 151 #[.pointer (some ⟨a, 0, none⟩), .int .u64 o, .int .i64 n] w fun e w' => e = .returned (.bool (holdsB S o n)) ∧ ∃ m, w' = w.drewN m := by
 by_cases h1 : o ≤ S
 ·have d1 : decide ((o : Int) ≤ S) = true := decide_eq_true (by omega)
  have hs : (0 : Int) ≤ (S : Int) - o := by omega
  have HE : Hid (holdsB S o n = decide (((2 ^ n : Nat) : Int) ≤ (S : Int) - o)) := by show holdsB S o n = _; unfold holdsB; rw [decide_eq_decide]; omega
  rcases hn with rfl | rfl | rfl | rfl
  all_goals
   go_enter Tryz.func151, Tryz.ntmps151
   go_wp2
   go_quiet ((refine Calls.quiet_of_same ((size_c (a := a) (S := S) (by exact c0)).mono (fun e w1 hh => ⟨hh.1, hh.2.symm⟩))))
   go_wp2
   go_ret
   exact ⟨by rw [HE.out]; rfl, _, rfl⟩
 ·have d1 : decide ((o : Int) ≤ S) = false := decide_eq_false (by omega)
  have HE : Hid (holdsB S o n = false) := by show holdsB S o n = _; unfold holdsB; rw [decide_eq_false_iff_not]; have := Nat.two_pow_pos n; omega
  go_enter Tryz.func151, Tryz.ntmps151
  go_wp2
  go_quiet ((refine Calls.quiet_of_same ((size_c (a := a) (S := S) (by exact c0)).mono (fun e w1 hh => ⟨hh.1, hh.2.symm⟩))))
  go_wp2
  go_ret
  exact ⟨by rw [HE.out]; rfl, _, rfl⟩
theorem below_drewN {w w' : World} (h : ∃ m, w' = w.drewN m) : Below w.heap.size w w' := by
 obtain ⟨m, rfl⟩ := h
 exact ⟨rfl, rfl, rfl, Nat.le_refl _, fun _ _ => rfl⟩
end Go.Proofs.YtfohjkgheeiinaaGreatDoor
namespace Go.Proofs.YtfohjkgheeiinaaGreatDoor
open Go.RowKit Go.Maps
def mD (S : Nat) (l : Int) (x : Nat) : List Value := if mf S l x = 0 then d7 l x else zD
def mFt (S : Nat) (l : Int) (x : Nat) : List Value := if mf S l x = 0 then zF else [.int .i64 (mf S l x), .int .i64 l]
theorem rdK_range (l : Int) (x : Nat) : rdK l x = 0 ∨ rdK l x = 1 ∨ rdK l x = 2 ∨ rdK l x = 3 := by
 unfold rdK
 split
 ·exact Or.inl rfl
 ·split
  ·exact Or.inr (Or.inl rfl)
  ·split
   ·exact Or.inr (Or.inr (Or.inr rfl))
   ·exact Or.inr (Or.inr (Or.inl rfl))
theorem info_desc : (Tryz.prog.info? 95).map (·.size) = some 7 := by kernel_rfl
theorem info_fault : (Tryz.prog.info? 50).map (·.size) = some 2 := by kernel_rfl
theorem zD_one : zD.toArray.all (·.oneCell') = true := all_oneCell_toArray (by simp [zD, Value.oneCell'])
theorem two_one (k l : Int) : (#[Value.int .i64 k, .int .i64 l] : Array Value).all (·.oneCell') = true := by simp [Value.oneCell']
theorem lowK_cases {l : Int} (hl : isLv l = true) : lowK l = 12 ∨ lowK l = 21 ∨ lowK l = 30 ∨ lowK l = 39 := by
 have h1 := lowK_eq hl
 have h2 := isLv_of hl
 omega
structure Seven (D : List Value) (K : Int) (O : Nat) : Prop where
 len : D.toArray.size = 7
 len' : D.length = 7
 one : D.toArray.all (·.oneCell') = true
 seg : segA zD.toArray 0 D = D.toArray
 c0 : D.toArray[0]? = some (.int .i64 K)
 c1 : D.toArray[1]? = some (.int .u64 O)
theorem seven_d7 (l : Int) (x : Nat) : Seven (d7 l x) (rdK l x) (rdO x) := ⟨rfl, rfl, all_oneCell_toArray (by simp [d7, Value.oneCell']), rfl, rfl, rfl⟩
theorem seven_zD : Seven zD 0 0 := ⟨rfl, rfl, zD_one, rfl, rfl, rfl⟩
theorem meaning_fail (l : Int) (x : Nat) {a : Nat} (w : World) (hF : Flds w) (D : List Value) (O : Nat) (h7D : Seven D 0 O)
  (hD : ∀ w1, Flds w1 → Calls Tryz.prog 93 #[.int .i64 l, .int .u64 x] w1 fun e w' => e = .returned (.tuple #[.agg D.toArray, .int .i64 10]) ∧ Below w1.heap.size w1 w') :
  Calls Tryz.prog 142 #[.pointer (some ⟨a, 0, none⟩), .int .i64 l, .int .u64 x] w fun e w' => e = .returned (.tuple #[.agg zD.toArray, .agg #[.int .i64 4, .int .i64 l]]) ∧ Below w.heap.size w w' := by
 obtain ⟨hlen, hlen', hone, hseg, hd0, hd1⟩ := h7D
 go_enter Tryz.func142, Tryz.ntmps142
 go_wp2_with fail
 refine (hD _ ((hF.alloc _).alloc _)).mono ?_
 rintro e w1 ⟨rfl, hb⟩
 have hB : Below w.heap.size w w1 := below_tr (below_tr (below_new _ _) (below_new _ _)) hb
 have h6 : w1.heap[w.heap.size]? = some (.cells zD.toArray 95 (0, 0)) := block_later hb (heap_alloc2_old _ _ _)
 have h7 : w1.heap[w.heap.size + 1]? = some (.cells zF.toArray 50 (0, 0)) := block_later hb (heap_alloc2_new _ _ _)
 clear hb hD
 go_wp2_with (first
  | (refine wpList_store_seg rfl 95 _ _ rfl w1.heap.size 0 _ D.toArray rfl rfl rfl 95 zD.toArray (heap_alloc_new _ _) (by rw [hlen]; decide) (by rw [hlen]; exact info_desc) hone D.toArray hseg ?_
     intro w2 h8 ht8
     have c80 := (cell_of_row w2 w1.heap.size 0 _ _ _ h8).trans hd0
     have c81 := (cell_of_row w2 w1.heap.size 1 _ _ _ h8).trans hd1
     have hB2 : Below w.heap.size w w2 := below_turn (below_tr hB (below_new _ _)) ht8 hB.size
     have k6 := block_turn ht8 (block_later (below_new _ _) h6) (Nat.ne_of_lt (block_lt h6))
     have k7 := block_turn ht8 (block_later (below_new _ _) h7) (Nat.ne_of_lt (block_lt h7))
     have hs12 := hB.size
     clear h6 h7 hB ht8)
  | (refine wpList_store_seg rfl 95 _ _ rfl w.heap.size 0 _ zD.toArray rfl rfl rfl 95 zD.toArray k6 (by decide) (by exact info_desc) zD_one zD.toArray rfl ?_
     intro w3 r6 ht6
     have r7 := block_turn ht6 k7 (by omega)
     have hB4 : Below w.heap.size w w3 := below_turn hB2 ht6 (Nat.le_refl _)
     clear ht6 k6 k7 hB2)
  | (refine wpList_store_seg rfl 50 _ _ rfl (w.heap.size + 1) 0 _ #[.int .i64 4, .int .i64 l] rfl rfl rfl 50 zF.toArray r7 (Nat.le_refl 2) info_fault (two_one 4 l) #[.int .i64 4, .int .i64 l] rfl ?_
     intro w4 q7 ht7
     have q6 := block_turn ht7 r6 (by omega)
     have hB5 : Below w.heap.size w w4 := below_turn hB4 ht7 (by omega)
     clear ht7 r6 r7 hB4))
 refine bodyPost_ret (v := .tuple #[.agg zD.toArray, .agg #[.int .i64 4, .int .i64 l]]) ?_ rfl ⟨rfl, hB5⟩
 exact results_row_row (p := 6) (q := 7) rfl _ _ w.heap.size (w.heap.size + 1) 95 50 _ _ _ _ _ _ rfl q6 Tryz.underlying95 rfl (by exact info_desc) rfl q7 Tryz.underlying50 rfl info_fault
theorem meaning_inv (l : Int) (x : Nat) {a : Nat} (w : World) (hF : Flds w) (D : List Value) (O : Nat) (h7D : Seven D 0 O)
  (hD : ∀ w1, Flds w1 → Calls Tryz.prog 93 #[.int .i64 l, .int .u64 x] w1 fun e w' => e = .returned (.tuple #[.agg D.toArray, .int .i64 0]) ∧ Below w1.heap.size w1 w') :
  Calls Tryz.prog 142 #[.pointer (some ⟨a, 0, none⟩), .int .i64 l, .int .u64 x] w fun e w' => e = .returned (.tuple #[.agg zD.toArray, .agg #[.int .i64 1, .int .i64 l]]) ∧ Below w.heap.size w w' := by
 obtain ⟨hlen, hlen', hone, hseg, hd0, hd1⟩ := h7D
 go_enter Tryz.func142, Tryz.ntmps142
 go_wp2_with fail
 refine (hD _ ((hF.alloc _).alloc _)).mono ?_
 rintro e w1 ⟨rfl, hb⟩
 have hB : Below w.heap.size w w1 := below_tr (below_tr (below_new _ _) (below_new _ _)) hb
 have h6 : w1.heap[w.heap.size]? = some (.cells zD.toArray 95 (0, 0)) := block_later hb (heap_alloc2_old _ _ _)
 have h7 : w1.heap[w.heap.size + 1]? = some (.cells zF.toArray 50 (0, 0)) := block_later hb (heap_alloc2_new _ _ _)
 clear hb hD
 go_wp2_with (first
  | (refine wpList_store_seg rfl 95 _ _ rfl w1.heap.size 0 _ D.toArray rfl rfl rfl 95 zD.toArray (heap_alloc_new _ _) (by rw [hlen]; decide) (by rw [hlen]; exact info_desc) hone D.toArray hseg ?_
     intro w2 h8 ht8
     have c80 := (cell_of_row w2 w1.heap.size 0 _ _ _ h8).trans hd0
     have c81 := (cell_of_row w2 w1.heap.size 1 _ _ _ h8).trans hd1
     have hB2 : Below w.heap.size w w2 := below_turn (below_tr hB (below_new _ _)) ht8 hB.size
     have k6 := block_turn ht8 (block_later (below_new _ _) h6) (Nat.ne_of_lt (block_lt h6))
     have k7 := block_turn ht8 (block_later (below_new _ _) h7) (Nat.ne_of_lt (block_lt h7))
     have hs12 := hB.size
     clear h6 h7 hB ht8)
  | (refine wpList_store_seg rfl 95 _ _ rfl w.heap.size 0 _ zD.toArray rfl rfl rfl 95 zD.toArray k6 (by decide) (by exact info_desc) zD_one zD.toArray rfl ?_
     intro w3 r6 ht6
     have r7 := block_turn ht6 k7 (by omega)
     have hB4 : Below w.heap.size w w3 := below_turn hB2 ht6 (Nat.le_refl _)
     clear ht6 k6 k7 hB2)
  | (refine wpList_store_seg rfl 50 _ _ rfl (w.heap.size + 1) 0 _ #[.int .i64 1, .int .i64 l] rfl rfl rfl 50 zF.toArray r7 (Nat.le_refl 2) info_fault (two_one 1 l) #[.int .i64 1, .int .i64 l] rfl ?_
     intro w4 q7 ht7
     have q6 := block_turn ht7 r6 (by omega)
     have hB5 : Below w.heap.size w w4 := below_turn hB4 ht7 (by omega)
     clear ht7 r6 r7 hB4))
 refine bodyPost_ret (v := .tuple #[.agg zD.toArray, .agg #[.int .i64 1, .int .i64 l]]) ?_ rfl ⟨rfl, hB5⟩
 exact results_row_row (p := 6) (q := 7) rfl _ _ w.heap.size (w.heap.size + 1) 95 50 _ _ _ _ _ _ rfl q6 Tryz.underlying95 rfl (by exact info_desc) rfl q7 Tryz.underlying50 rfl info_fault
theorem meaning_tab (l : Int) (x : Nat) {a : Nat} (w : World) (hF : Flds w) (D : List Value) (O : Nat) (h7D : Seven D 1 O)
  (hD : ∀ w1, Flds w1 → Calls Tryz.prog 93 #[.int .i64 l, .int .u64 x] w1 fun e w' => e = .returned (.tuple #[.agg D.toArray, .int .i64 0]) ∧ Below w1.heap.size w1 w') :
  Calls Tryz.prog 142 #[.pointer (some ⟨a, 0, none⟩), .int .i64 l, .int .u64 x] w fun e w' => e = .returned (.tuple #[.agg D.toArray, .agg zF.toArray]) ∧ Below w.heap.size w w' := by
 obtain ⟨hlen, hlen', hone, hseg, hd0, hd1⟩ := h7D
 go_enter Tryz.func142, Tryz.ntmps142
 go_wp2_with fail
 refine (hD _ ((hF.alloc _).alloc _)).mono ?_
 rintro e w1 ⟨rfl, hb⟩
 have hB : Below w.heap.size w w1 := below_tr (below_tr (below_new _ _) (below_new _ _)) hb
 have h6 : w1.heap[w.heap.size]? = some (.cells zD.toArray 95 (0, 0)) := block_later hb (heap_alloc2_old _ _ _)
 have h7 : w1.heap[w.heap.size + 1]? = some (.cells zF.toArray 50 (0, 0)) := block_later hb (heap_alloc2_new _ _ _)
 clear hb hD
 go_wp2_with (first
  | (refine wpList_store_seg rfl 95 _ _ rfl w1.heap.size 0 _ D.toArray rfl rfl rfl 95 zD.toArray (heap_alloc_new _ _) (by rw [hlen]; decide) (by rw [hlen]; exact info_desc) hone D.toArray hseg ?_
     intro w2 h8 ht8
     have c80 := (cell_of_row w2 w1.heap.size 0 _ _ _ h8).trans hd0
     have c81 := (cell_of_row w2 w1.heap.size 1 _ _ _ h8).trans hd1
     have hB2 : Below w.heap.size w w2 := below_turn (below_tr hB (below_new _ _)) ht8 hB.size
     have k6 := block_turn ht8 (block_later (below_new _ _) h6) (Nat.ne_of_lt (block_lt h6))
     have k7 := block_turn ht8 (block_later (below_new _ _) h7) (Nat.ne_of_lt (block_lt h7))
     have hs12 := hB.size
     clear h6 h7 hB ht8)
  | (refine wpList_load_seg rfl 95 _ rfl w1.heap.size 0 rfl 95 D.toArray h8 D (fun j v hv => by simpa using hv) _ Tryz.underlying95 rfl (by rw [hlen']; exact info_desc) ?_)
  | (refine wpList_store_seg rfl 95 _ _ rfl w.heap.size 0 _ D.toArray rfl rfl rfl 95 zD.toArray k6 (by rw [hlen]; decide) (by rw [hlen]; exact info_desc) hone D.toArray hseg ?_
     intro w3 r6 ht6
     have r7 := block_turn ht6 k7 (by omega)
     have hB4 : Below w.heap.size w w3 := below_turn hB2 ht6 (Nat.le_refl _)
     clear ht6 k6 k7 hB2)
  | (refine wpList_store_seg rfl 50 _ _ rfl (w.heap.size + 1) 0 _ zF.toArray rfl rfl rfl 50 zF.toArray r7 (Nat.le_refl 2) info_fault (two_one 0 0) zF.toArray rfl ?_
     intro w4 q7 ht7
     have q6 := block_turn ht7 r6 (by omega)
     have hB5 : Below w.heap.size w w4 := below_turn hB4 ht7 (by omega)
     clear ht7 r6 r7 hB4))
 refine bodyPost_ret (v := .tuple #[.agg D.toArray, .agg zF.toArray]) ?_ rfl ⟨rfl, hB5⟩
 exact results_row_row (p := 6) (q := 7) rfl _ _ w.heap.size (w.heap.size + 1) 95 50 _ _ _ _ _ _ rfl q6 Tryz.underlying95 rfl (by rw [hlen]; exact info_desc) rfl q7 Tryz.underlying50 rfl info_fault
theorem meaning_out (l : Int) (x : Nat) {a S : Nat} (w : World) (hF : Flds w) (D : List Value) (hl : isLv l = true) (K : Int) (hK : K = 2 ∨ K = 3) (O : Nat) (h7D : Seven D K O) (hO : O < 18446744073709551616) (hcS : w.cell? ⟨a, 0, none⟩ = some (.int .u64 S)) (hS : S ≤ 4294967296) (hh : holdsB S O (lowK l) = false)
  (hD : ∀ w1, Flds w1 → Calls Tryz.prog 93 #[.int .i64 l, .int .u64 x] w1 fun e w' => e = .returned (.tuple #[.agg D.toArray, .int .i64 0]) ∧ Below w1.heap.size w1 w') :
  Calls Tryz.prog 142 #[.pointer (some ⟨a, 0, none⟩), .int .i64 l, .int .u64 x] w fun e w' => e = .returned (.tuple #[.agg zD.toArray, .agg #[.int .i64 4, .int .i64 l]]) ∧ Below w.heap.size w w' := by
 rcases hK with rfl | rfl
 all_goals
  obtain ⟨hlen, hlen', hone, hseg, hd0, hd1⟩ := h7D
  have hlk := (lowK_eq hl).1
  have HS := fun (wx : World) (hc : wx.cell? ⟨a, 0, none⟩ = some (.int .u64 S)) => holds_any hc hS O (lowK l) hO (lowK_cases hl)
  go_enter Tryz.func142, Tryz.ntmps142
  go_wp2_with fail
  refine (hD _ ((hF.alloc _).alloc _)).mono ?_
  rintro e w1 ⟨rfl, hb⟩
  have hB : Below w.heap.size w w1 := below_tr (below_tr (below_new _ _) (below_new _ _)) hb
  have h6 : w1.heap[w.heap.size]? = some (.cells zD.toArray 95 (0, 0)) := block_later hb (heap_alloc2_old _ _ _)
  have h7 : w1.heap[w.heap.size + 1]? = some (.cells zF.toArray 50 (0, 0)) := block_later hb (heap_alloc2_new _ _ _)
  have hcS1 := cell_later hB hcS
  clear hb hD hcS
  go_wp2_with (first
   | (refine wpList_store_seg rfl 95 _ _ rfl w1.heap.size 0 _ D.toArray rfl rfl rfl 95 zD.toArray (heap_alloc_new _ _) (by rw [hlen]; decide) (by rw [hlen]; exact info_desc) hone D.toArray hseg ?_
      intro w2 h8 ht8
      have c80 := (cell_of_row w2 w1.heap.size 0 _ _ _ h8).trans hd0
      have c81 := (cell_of_row w2 w1.heap.size 1 _ _ _ h8).trans hd1
      have hB2 : Below w.heap.size w w2 := below_turn (below_tr hB (below_new _ _)) ht8 hB.size
      have k6 := block_turn ht8 (block_later (below_new _ _) h6) (Nat.ne_of_lt (block_lt h6))
      have k7 := block_turn ht8 (block_later (below_new _ _) h7) (Nat.ne_of_lt (block_lt h7))
      have hcS2 : w2.cell? ⟨a, 0, none⟩ = some (.int .u64 S) := by
       have hlt := World.block_lt_of_cell? _ _ hcS1
       have hq := cell_later (below_new w1 (.cells #[.int .i64 0, .int .u64 0, .bool false, .bool false, .bool false, .bool false, .int .i64 0] 95)) hcS1
       exact (World.cell?_of_block (a := ⟨a, 0, none⟩) (ht8.block a (by simp at hlt ⊢; omega) (Nat.ne_of_lt hlt))).trans hq
      have hs12 := hB.size
      clear h6 h7 hB ht8 hcS1)
   | fail)
  go_quiet (first
   | (go_at_call 122; refine Calls.quiet_of_same ((dbits_any _ _).mono (fun e w1 hh => ⟨by rw [hh.1, hlk], hh.2.symm⟩)))
   | (go_at_call 151; refine Calls.quiet_of ((HS _ (by exact hcS2)).mono (fun e w1 hq => ⟨by rw [hq.1, hh], hq.2⟩))))
  have hB3 : Below w.heap.size w (w2.drewN nq) := below_tr hB2 (below_drewN ⟨_, rfl⟩)
  have k6' : (w2.drewN nq).heap[w.heap.size]? = _ := k6
  have k7' : (w2.drewN nq).heap[w.heap.size + 1]? = _ := k7
  have h8' : (w2.drewN nq).heap[w1.heap.size]? = _ := h8
  clear hB2 k6 k7 h8 hcS2 c80 c81 HS
  generalize w2.drewN nq = w2' at *
  go_wp2_with (first
   | (refine wpList_store_seg rfl 95 _ _ rfl w.heap.size 0 _ zD.toArray rfl rfl rfl 95 zD.toArray k6' (by decide) (by exact info_desc) zD_one zD.toArray rfl ?_
      intro w3 r6 ht6
      have r7 := block_turn ht6 k7' (by omega)
      have hB4 : Below w.heap.size w w3 := below_turn hB3 ht6 (Nat.le_refl _)
      clear ht6 k6' k7' hB3)
   | (refine wpList_store_seg rfl 50 _ _ rfl (w.heap.size + 1) 0 _ #[.int .i64 4, .int .i64 l] rfl rfl rfl 50 zF.toArray r7 (Nat.le_refl 2) info_fault (two_one 4 l) #[.int .i64 4, .int .i64 l] rfl ?_
      intro w4 q7 ht7
      have q6 := block_turn ht7 r6 (by omega)
      have hB5 : Below w.heap.size w w4 := below_turn hB4 ht7 (by omega)
      clear ht7 r6 r7 hB4))
  refine bodyPost_ret (v := .tuple #[.agg zD.toArray, .agg #[.int .i64 4, .int .i64 l]]) ?_ rfl ⟨rfl, hB5⟩
  exact results_row_row (p := 6) (q := 7) rfl _ _ w.heap.size (w.heap.size + 1) 95 50 _ _ _ _ _ _ rfl q6 Tryz.underlying95 rfl (by exact info_desc) rfl q7 Tryz.underlying50 rfl info_fault
theorem meaning_leaf (l : Int) (x : Nat) {a S : Nat} (w : World) (hF : Flds w) (D : List Value) (hl : isLv l = true) (K : Int) (hK : K = 2 ∨ K = 3) (O : Nat) (h7D : Seven D K O) (hO : O < 18446744073709551616) (hcS : w.cell? ⟨a, 0, none⟩ = some (.int .u64 S)) (hS : S ≤ 4294967296) (hh : holdsB S O (lowK l) = true)
  (hD : ∀ w1, Flds w1 → Calls Tryz.prog 93 #[.int .i64 l, .int .u64 x] w1 fun e w' => e = .returned (.tuple #[.agg D.toArray, .int .i64 0]) ∧ Below w1.heap.size w1 w') :
  Calls Tryz.prog 142 #[.pointer (some ⟨a, 0, none⟩), .int .i64 l, .int .u64 x] w fun e w' => e = .returned (.tuple #[.agg D.toArray, .agg zF.toArray]) ∧ Below w.heap.size w w' := by
 rcases hK with rfl | rfl
 all_goals
  obtain ⟨hlen, hlen', hone, hseg, hd0, hd1⟩ := h7D
  have hlk := (lowK_eq hl).1
  have HS := fun (wx : World) (hc : wx.cell? ⟨a, 0, none⟩ = some (.int .u64 S)) => holds_any hc hS O (lowK l) hO (lowK_cases hl)
  go_enter Tryz.func142, Tryz.ntmps142
  go_wp2_with fail
  refine (hD _ ((hF.alloc _).alloc _)).mono ?_
  rintro e w1 ⟨rfl, hb⟩
  have hB : Below w.heap.size w w1 := below_tr (below_tr (below_new _ _) (below_new _ _)) hb
  have h6 : w1.heap[w.heap.size]? = some (.cells zD.toArray 95 (0, 0)) := block_later hb (heap_alloc2_old _ _ _)
  have h7 : w1.heap[w.heap.size + 1]? = some (.cells zF.toArray 50 (0, 0)) := block_later hb (heap_alloc2_new _ _ _)
  have hcS1 := cell_later hB hcS
  clear hb hD hcS
  go_wp2_with (first
   | (refine wpList_store_seg rfl 95 _ _ rfl w1.heap.size 0 _ D.toArray rfl rfl rfl 95 zD.toArray (heap_alloc_new _ _) (by rw [hlen]; decide) (by rw [hlen]; exact info_desc) hone D.toArray hseg ?_
      intro w2 h8 ht8
      have c80 := (cell_of_row w2 w1.heap.size 0 _ _ _ h8).trans hd0
      have c81 := (cell_of_row w2 w1.heap.size 1 _ _ _ h8).trans hd1
      have hB2 : Below w.heap.size w w2 := below_turn (below_tr hB (below_new _ _)) ht8 hB.size
      have k6 := block_turn ht8 (block_later (below_new _ _) h6) (Nat.ne_of_lt (block_lt h6))
      have k7 := block_turn ht8 (block_later (below_new _ _) h7) (Nat.ne_of_lt (block_lt h7))
      have hcS2 : w2.cell? ⟨a, 0, none⟩ = some (.int .u64 S) := by
       have hlt := World.block_lt_of_cell? _ _ hcS1
       have hq := cell_later (below_new w1 (.cells #[.int .i64 0, .int .u64 0, .bool false, .bool false, .bool false, .bool false, .int .i64 0] 95)) hcS1
       exact (World.cell?_of_block (a := ⟨a, 0, none⟩) (ht8.block a (by simp at hlt ⊢; omega) (Nat.ne_of_lt hlt))).trans hq
      have hs12 := hB.size
      clear h6 h7 hB ht8 hcS1)
   | fail)
  go_quiet (first
   | (go_at_call 122; refine Calls.quiet_of_same ((dbits_any _ _).mono (fun e w1 hh => ⟨by rw [hh.1, hlk], hh.2.symm⟩)))
   | (go_at_call 151; refine Calls.quiet_of ((HS _ (by exact hcS2)).mono (fun e w1 hq => ⟨by rw [hq.1, hh], hq.2⟩))))
  have hB3 : Below w.heap.size w (w2.drewN nq) := below_tr hB2 (below_drewN ⟨_, rfl⟩)
  have k6' : (w2.drewN nq).heap[w.heap.size]? = _ := k6
  have k7' : (w2.drewN nq).heap[w.heap.size + 1]? = _ := k7
  have h8' : (w2.drewN nq).heap[w1.heap.size]? = _ := h8
  clear hB2 k6 k7 h8 hcS2 c80 c81 HS
  generalize w2.drewN nq = w2' at *
  go_wp2_with (first
   | (refine wpList_load_seg rfl 95 _ rfl w1.heap.size 0 rfl 95 D.toArray h8' D (fun j v hv => by simpa using hv) _ Tryz.underlying95 rfl (by rw [hlen']; exact info_desc) ?_)
   | (refine wpList_store_seg rfl 95 _ _ rfl w.heap.size 0 _ D.toArray rfl rfl rfl 95 zD.toArray k6' (by rw [hlen]; decide) (by rw [hlen]; exact info_desc) hone D.toArray hseg ?_
      intro w3 r6 ht6
      have r7 := block_turn ht6 k7' (by omega)
      have hB4 : Below w.heap.size w w3 := below_turn hB3 ht6 (Nat.le_refl _)
      clear ht6 k6' k7' hB3)
   | (refine wpList_store_seg rfl 50 _ _ rfl (w.heap.size + 1) 0 _ zF.toArray rfl rfl rfl 50 zF.toArray r7 (Nat.le_refl 2) info_fault (two_one 0 0) zF.toArray rfl ?_
      intro w4 q7 ht7
      have q6 := block_turn ht7 r6 (by omega)
      have hB5 : Below w.heap.size w w4 := below_turn hB4 ht7 (by omega)
      clear ht7 r6 r7 hB4))
  refine bodyPost_ret (v := .tuple #[.agg D.toArray, .agg zF.toArray]) ?_ rfl ⟨rfl, hB5⟩
  exact results_row_row (p := 6) (q := 7) rfl _ _ w.heap.size (w.heap.size + 1) 95 50 _ _ _ _ _ _ rfl q6 Tryz.underlying95 rfl (by rw [hlen]; exact info_desc) rfl q7 Tryz.underlying50 rfl info_fault
theorem meaning_any (l : Int) (x : Nat) (hl : isLv l = true) (hx : x < 18446744073709551616) {a S : Nat} (w : World) (hF : Flds w) (hcS : w.cell? ⟨a, 0, none⟩ = some (.int .u64 S)) (hS : S ≤ 4294967296) :
  Calls Tryz.prog 142 #[.pointer (some ⟨a, 0, none⟩), .int .i64 l, .int .u64 x] w fun e w' => e = .returned (.tuple #[.agg (mD S l x).toArray, .agg (mFt S l x).toArray]) ∧ Below w.heap.size w w' := by
 cases hg : goodD l x
 ·have hm : mf S l x = 4 := by unfold mf; rw [if_pos hg]
  have e1 : mD S l x = zD := by unfold mD; rw [hm]; rfl
  have e2 : mFt S l x = [.int .i64 4, .int .i64 l] := by unfold mFt; rw [hm]; rfl
  rw [e1, e2]
  exact meaning_fail l x w hF zD 0 seven_zD (fun w1 h => decode_fail l x hl hx hg w1 h)
 ·have hD := fun w1 h => decode_good l x hl hx hg w1 h
  rw [rdV_d7] at hD
  have h7 := seven_d7 l x
  have hng : ¬ goodD l x = false := by rw [hg]; decide
  rcases rdK_range l x with hk | hk | hk
  ·have hm : mf S l x = 1 := by unfold mf; rw [if_neg hng, if_pos hk]
   have e1 : mD S l x = zD := by unfold mD; rw [hm]; rfl
   have e2 : mFt S l x = [.int .i64 1, .int .i64 l] := by unfold mFt; rw [hm]; rfl
   rw [e1, e2]
   rw [hk] at h7
   exact meaning_inv l x w hF _ _ h7 hD
  ·have hm : mf S l x = 0 := by unfold mf; rw [if_neg hng, if_neg (by rw [hk]; decide), if_neg (fun c => c.1 hk)]
   have e1 : mD S l x = d7 l x := by unfold mD; rw [if_pos hm]
   have e2 : mFt S l x = zF := by unfold mFt; rw [if_pos hm]
   rw [e1, e2]
   rw [hk] at h7
   exact meaning_tab l x w hF _ _ h7 hD
  ·have h0 : ¬ rdK l x = 0 := by rcases hk with hk | hk <;> rw [hk] <;> decide
   have h1 : rdK l x ≠ 1 := by rcases hk with hk | hk <;> rw [hk] <;> decide
   have ho := rdO_lt x
   cases hh : holdsB S (rdO x) (lowK l)
   ·have hb := of_decide_eq_false hh
    have hm : mf S l x = 4 := by unfold mf; rw [if_neg hng, if_neg h0, if_pos ⟨h1, by omega⟩]
    have e1 : mD S l x = zD := by unfold mD; rw [hm]; rfl
    have e2 : mFt S l x = [.int .i64 4, .int .i64 l] := by unfold mFt; rw [hm]; rfl
    rw [e1, e2]
    exact meaning_out l x w hF _ hl _ hk _ h7 ho hcS hS hh hD
   ·have hb := of_decide_eq_true hh
    have hm : mf S l x = 0 := by unfold mf; rw [if_neg hng, if_neg h0, if_neg (fun c => by omega)]
    have e1 : mD S l x = d7 l x := by unfold mD; rw [if_pos hm]
    have e2 : mFt S l x = zF := by unfold mFt; rw [if_pos hm]
    rw [e1, e2]
    exact meaning_leaf l x w hF _ hl _ hk _ h7 ho hcS hS hh hD
end Go.Proofs.YtfohjkgheeiinaaGreatDoor
