/- P17 -/
import Derived.Test.YtfdbdeckohaneaaGreatDoorP16
import Derived.Test.YtfdbdeckohaneaaGreatDoorP13
set_option maxHeartbeats 16000000
set_option maxRecDepth 100000
namespace Go.Proofs.YtfdbdeckohaneaaGreatDoor
open Go.RowKit Go.Maps
def isTab (l : Int) (tb : Nat) : Bool := isLv l && alB tb 12
theorem zP17x01 {Z : Prop} (z : Z := by
 have HE : Hid (isTab l tb = false) := by show isTab l tb = _; unfold isTab isLv; rw [decide_eq_false (by omega)]; rfl
 go_enter Tryz.func135, Tryz.ntmps135
 go_wp2
 go_ret
 exact ⟨by rw [HE.out]; rfl, rfl⟩) : Z := z
theorem isTable_any (l : Int) (tb : Nat) (ht : tb < 18446744073709551616) (w : World) :
  Calls Tryz.prog 135 #[.int .i64 l, .int .u64 tb] w fun e w' => e = .returned (.bool (isTab l tb)) ∧ w = w' := by
 have hA := fun w => aligned_c tb 12 (Or.inr rfl) ht w
 by_cases h1 : 0 ≤ l
 ·have d1 : decide (0 ≤ l) = true := decide_eq_true h1
  by_cases h2 : l < 4
  ·have d2 : decide (l < 4) = true := decide_eq_true h2
   have HE : Hid (isTab l tb = alB tb 12) := by show isTab l tb = _; unfold isTab isLv; rw [decide_eq_true (by omega)]; rfl
   go_enter Tryz.func135, Tryz.ntmps135
   go_wp2_with (go_at_call 51; refine (hA _).mono ?_; rintro e w' ⟨rfl, rfl⟩)
   go_ret
   exact ⟨by rw [HE.out]; rfl, rfl⟩
  ·have d2 : decide (l < 4) = false := decide_eq_false h2
   exact zP17x01
 ·have d1 : decide (0 ≤ l) = false := decide_eq_false h1
  exact zP17x01
theorem entry_any (tb i : Nat) (hi : i < 512) (ht : tb % 4096 = 0) (hl : tb < 18446744073709551616) (w : World) :
  Calls Tryz.prog 136 #[.int .u64 tb, .int .i64 i] w fun e w' => e = .returned (.int .u64 ((tb + 8 * i : Nat) : Int)) ∧ w = w' := by
 have hb : (tb : Int) + 8 * i < 18446744073709551616 := by omega
 go_enter Tryz.func136, Tryz.ntmps136
 go_wp2
 go_ret
 refine ⟨?_, rfl⟩
 first
  | rfl
  | (congr 2; omega)
  | (congr 2; simp; omega)
def holdsB (S o n : Nat) : Bool := decide (o + 2 ^ n ≤ S)
theorem holds_any {w : World} {a S : Nat} (c0 : w.cell? ⟨a, 0, none⟩ = some (.int .u64 S)) (hS : S ≤ 4294967296) (o n : Nat) (ho : o < 18446744073709551616) (hn : n = 12 ∨ n = 21 ∨ n = 30 ∨ n = 39) :
  Calls Tryz.prog 148 #[.pointer (some ⟨a, 0, none⟩), .int .u64 o, .int .i64 n] w fun e w' => e = .returned (.bool (holdsB S o n)) ∧ ∃ m, w' = w.drewN m := by
 by_cases h1 : o ≤ S
 ·have d1 : decide ((o : Int) ≤ S) = true := decide_eq_true (by omega)
  have hs : (0 : Int) ≤ (S : Int) - o := by omega
  have HE : Hid (holdsB S o n = decide (((2 ^ n : Nat) : Int) ≤ (S : Int) - o)) := by show holdsB S o n = _; unfold holdsB; rw [decide_eq_decide]; omega
  rcases hn with rfl | rfl | rfl | rfl
  all_goals
   go_enter Tryz.func148, Tryz.ntmps148
   go_wp2
   go_quiet ((refine Calls.quiet_of_same ((size_c (a := a) (S := S) (by exact c0)).mono (fun e w1 hh => ⟨hh.1, hh.2.symm⟩))))
   go_wp2
   go_ret
   exact ⟨by rw [HE.out]; rfl, _, rfl⟩
 ·have d1 : decide ((o : Int) ≤ S) = false := decide_eq_false (by omega)
  have HE : Hid (holdsB S o n = false) := by show holdsB S o n = _; unfold holdsB; rw [decide_eq_false_iff_not]; have := Nat.two_pow_pos n; omega
  go_enter Tryz.func148, Tryz.ntmps148
  go_wp2
  go_quiet ((refine Calls.quiet_of_same ((size_c (a := a) (S := S) (by exact c0)).mono (fun e w1 hh => ⟨hh.1, hh.2.symm⟩))))
  go_wp2
  go_ret
  exact ⟨by rw [HE.out]; rfl, _, rfl⟩
theorem qco {w w' : World} (h : ∃ m, w' = w.drewN m) : Below w.heap.size w w' := by
 obtain ⟨m, rfl⟩ := h
 exact ⟨rfl, rfl, rfl, Nat.le_refl _, fun _ _ => rfl⟩
def mD (S : Nat) (l : Int) (x : Nat) : List Value := if mf S l x = 0 then d7 l x else zD
def mFt (S : Nat) (l : Int) (x : Nat) : List Value := if mf S l x = 0 then zF else [.int .i64 (mf S l x), .int .i64 l]
theorem rdK_range (l : Int) (x : Nat) : rdK l x = 0 ∨ rdK l x = 1 ∨ rdK l x = 2 ∨ rdK l x = 3 := by
 unfold rdK
 split
 ·exact Or.inl rfl
 ·split
  ·exact Or.inr (Or.inl rfl)
  ·split
   ·exact Or.inr (Or.inr (Or.inr rfl))
   ·exact Or.inr (Or.inr (Or.inl rfl))
theorem qbh : (Tryz.prog.info? 89).map (·.size) = some 7 := by kernel_rfl
theorem qap : (Tryz.prog.info? 50).map (·.size) = some 2 := by kernel_rfl
theorem zD_one : zD.toArray.all (·.oneCell') = true := all_oneCell_toArray (by simp [zD, Value.oneCell'])
theorem qch (k l : Int) : (#[Value.int .i64 k, .int .i64 l] : Array Value).all (·.oneCell') = true := by simp [Value.oneCell']
theorem lowK_cases {l : Int} (hl : isLv l = true) : lowK l = 12 ∨ lowK l = 21 ∨ lowK l = 30 ∨ lowK l = 39 := by
 have h1 := qcg hl
 have h2 := qdf hl
 omega
structure Seven (D : List Value) (K : Int) (O : Nat) : Prop where
 len : D.toArray.size = 7
 len' : D.length = 7
 one : D.toArray.all (·.oneCell') = true
 seg : segA zD.toArray 0 D = D.toArray
 c0 : D.toArray[0]? = some (.int .i64 K)
 c1 : D.toArray[1]? = some (.int .u64 O)
theorem seven_d7 (l : Int) (x : Nat) : Seven (d7 l x) (rdK l x) (rdO x) := ⟨rfl, rfl, all_oneCell_toArray (by simp [d7, Value.oneCell']), rfl, rfl, rfl⟩
theorem seven_zD : Seven zD 0 0 := ⟨rfl, rfl, zD_one, rfl, rfl, rfl⟩
theorem zP17x04 {Z : Prop} (z : Z := by
 exact qas (p := 6) (q := 7) rfl _ _ w.heap.size (w.heap.size + 1) 89 50 _ _ _ _ _ _ rfl q6 Tryz.underlying89 rfl (by exact qbh) rfl q7 Tryz.underlying50 rfl qap) : Z := z
theorem meaning_fail (l : Int) (x : Nat) {a : Nat} (w : World) (hF : Flds w) (D : List Value) (O : Nat) (h7D : Seven D 0 O)
  (hD : ∀ w1, Flds w1 → Calls Tryz.prog 83 #[.int .i64 l, .int .u64 x] w1 fun e w' => e = .returned (.tuple #[.agg D.toArray, .int .i64 10]) ∧ Below w1.heap.size w1 w') :
  Calls Tryz.prog 138 #[.pointer (some ⟨a, 0, none⟩), .int .i64 l, .int .u64 x] w fun e w' => e = .returned (.tuple #[.agg zD.toArray, .agg #[.int .i64 4, .int .i64 l]]) ∧ Below w.heap.size w w' := by
 obtain ⟨hlen, hlen', hone, hseg, hd0, hd1⟩ := h7D
 go_enter Tryz.func138, Tryz.ntmps138
 go_wp2_with fail
 refine (hD _ ((hF.alloc _).alloc _)).mono ?_
 rintro e w1 ⟨rfl, hb⟩
 have hB : Below w.heap.size w w1 := qab (qab (qac _ _) (qac _ _)) hb
 have h6 : w1.heap[w.heap.size]? = some (.cells zD.toArray 89 (0, 0)) := qaa hb (heap_alloc2_old _ _ _)
 have h7 : w1.heap[w.heap.size + 1]? = some (.cells zF.toArray 50 (0, 0)) := qaa hb (heap_alloc2_new _ _ _)
 clear hb hD
 go_wp2_with (first
  | (refine qaj rfl 89 _ _ rfl w1.heap.size 0 _ D.toArray rfl rfl rfl 89 zD.toArray (heap_alloc_new _ _) (by rw [hlen]; decide) (by rw [hlen]; exact qbh) hone D.toArray hseg ?_
     intro w2 h8 ht8
     have c80 := (cell_of_row w2 w1.heap.size 0 _ _ _ h8).trans hd0
     have c81 := (cell_of_row w2 w1.heap.size 1 _ _ _ h8).trans hd1
     have hB2 : Below w.heap.size w w2 := qaf (qab hB (qac _ _)) ht8 hB.size
     have k6 := qae ht8 (qaa (qac _ _) h6) (Nat.ne_of_lt (qag h6))
     have k7 := qae ht8 (qaa (qac _ _) h7) (Nat.ne_of_lt (qag h7))
     have hs12 := hB.size
     clear h6 h7 hB ht8)
  | (refine qaj rfl 89 _ _ rfl w.heap.size 0 _ zD.toArray rfl rfl rfl 89 zD.toArray k6 (by decide) (by exact qbh) zD_one zD.toArray rfl ?_
     intro w3 r6 ht6
     have r7 := qae ht6 k7 (by omega)
     have hB4 : Below w.heap.size w w3 := qaf hB2 ht6 (Nat.le_refl _)
     clear ht6 k6 k7 hB2)
  | (refine qaj rfl 50 _ _ rfl (w.heap.size + 1) 0 _ #[.int .i64 4, .int .i64 l] rfl rfl rfl 50 zF.toArray r7 (Nat.le_refl 2) qap (qch 4 l) #[.int .i64 4, .int .i64 l] rfl ?_
     intro w4 q7 ht7
     have q6 := qae ht7 r6 (by omega)
     have hB5 : Below w.heap.size w w4 := qaf hB4 ht7 (by omega)
     clear ht7 r6 r7 hB4))
 refine bodyPost_ret (v := .tuple #[.agg zD.toArray, .agg #[.int .i64 4, .int .i64 l]]) ?_ rfl ⟨rfl, hB5⟩
 exact zP17x04
theorem meaning_inv (l : Int) (x : Nat) {a : Nat} (w : World) (hF : Flds w) (D : List Value) (O : Nat) (h7D : Seven D 0 O)
  (hD : ∀ w1, Flds w1 → Calls Tryz.prog 83 #[.int .i64 l, .int .u64 x] w1 fun e w' => e = .returned (.tuple #[.agg D.toArray, .int .i64 0]) ∧ Below w1.heap.size w1 w') :
  Calls Tryz.prog 138 #[.pointer (some ⟨a, 0, none⟩), .int .i64 l, .int .u64 x] w fun e w' => e = .returned (.tuple #[.agg zD.toArray, .agg #[.int .i64 1, .int .i64 l]]) ∧ Below w.heap.size w w' := by
 obtain ⟨hlen, hlen', hone, hseg, hd0, hd1⟩ := h7D
 go_enter Tryz.func138, Tryz.ntmps138
 go_wp2_with fail
 refine (hD _ ((hF.alloc _).alloc _)).mono ?_
 rintro e w1 ⟨rfl, hb⟩
 have hB : Below w.heap.size w w1 := qab (qab (qac _ _) (qac _ _)) hb
 have h6 : w1.heap[w.heap.size]? = some (.cells zD.toArray 89 (0, 0)) := qaa hb (heap_alloc2_old _ _ _)
 have h7 : w1.heap[w.heap.size + 1]? = some (.cells zF.toArray 50 (0, 0)) := qaa hb (heap_alloc2_new _ _ _)
 clear hb hD
 go_wp2_with (first
  | (refine qaj rfl 89 _ _ rfl w1.heap.size 0 _ D.toArray rfl rfl rfl 89 zD.toArray (heap_alloc_new _ _) (by rw [hlen]; decide) (by rw [hlen]; exact qbh) hone D.toArray hseg ?_
     intro w2 h8 ht8
     have c80 := (cell_of_row w2 w1.heap.size 0 _ _ _ h8).trans hd0
     have c81 := (cell_of_row w2 w1.heap.size 1 _ _ _ h8).trans hd1
     have hB2 : Below w.heap.size w w2 := qaf (qab hB (qac _ _)) ht8 hB.size
     have k6 := qae ht8 (qaa (qac _ _) h6) (Nat.ne_of_lt (qag h6))
     have k7 := qae ht8 (qaa (qac _ _) h7) (Nat.ne_of_lt (qag h7))
     have hs12 := hB.size
     clear h6 h7 hB ht8)
  | (refine qaj rfl 89 _ _ rfl w.heap.size 0 _ zD.toArray rfl rfl rfl 89 zD.toArray k6 (by decide) (by exact qbh) zD_one zD.toArray rfl ?_
     intro w3 r6 ht6
     have r7 := qae ht6 k7 (by omega)
     have hB4 : Below w.heap.size w w3 := qaf hB2 ht6 (Nat.le_refl _)
     clear ht6 k6 k7 hB2)
  | (refine qaj rfl 50 _ _ rfl (w.heap.size + 1) 0 _ #[.int .i64 1, .int .i64 l] rfl rfl rfl 50 zF.toArray r7 (Nat.le_refl 2) qap (qch 1 l) #[.int .i64 1, .int .i64 l] rfl ?_
     intro w4 q7 ht7
     have q6 := qae ht7 r6 (by omega)
     have hB5 : Below w.heap.size w w4 := qaf hB4 ht7 (by omega)
     clear ht7 r6 r7 hB4))
 refine bodyPost_ret (v := .tuple #[.agg zD.toArray, .agg #[.int .i64 1, .int .i64 l]]) ?_ rfl ⟨rfl, hB5⟩
 exact zP17x04
theorem meaning_tab (l : Int) (x : Nat) {a : Nat} (w : World) (hF : Flds w) (D : List Value) (O : Nat) (h7D : Seven D 1 O)
  (hD : ∀ w1, Flds w1 → Calls Tryz.prog 83 #[.int .i64 l, .int .u64 x] w1 fun e w' => e = .returned (.tuple #[.agg D.toArray, .int .i64 0]) ∧ Below w1.heap.size w1 w') :
  Calls Tryz.prog 138 #[.pointer (some ⟨a, 0, none⟩), .int .i64 l, .int .u64 x] w fun e w' => e = .returned (.tuple #[.agg D.toArray, .agg zF.toArray]) ∧ Below w.heap.size w w' := by
 obtain ⟨hlen, hlen', hone, hseg, hd0, hd1⟩ := h7D
 go_enter Tryz.func138, Tryz.ntmps138
 go_wp2_with fail
 refine (hD _ ((hF.alloc _).alloc _)).mono ?_
 rintro e w1 ⟨rfl, hb⟩
 have hB : Below w.heap.size w w1 := qab (qab (qac _ _) (qac _ _)) hb
 have h6 : w1.heap[w.heap.size]? = some (.cells zD.toArray 89 (0, 0)) := qaa hb (heap_alloc2_old _ _ _)
 have h7 : w1.heap[w.heap.size + 1]? = some (.cells zF.toArray 50 (0, 0)) := qaa hb (heap_alloc2_new _ _ _)
 clear hb hD
 go_wp2_with (first
  | (refine qaj rfl 89 _ _ rfl w1.heap.size 0 _ D.toArray rfl rfl rfl 89 zD.toArray (heap_alloc_new _ _) (by rw [hlen]; decide) (by rw [hlen]; exact qbh) hone D.toArray hseg ?_
     intro w2 h8 ht8
     have c80 := (cell_of_row w2 w1.heap.size 0 _ _ _ h8).trans hd0
     have c81 := (cell_of_row w2 w1.heap.size 1 _ _ _ h8).trans hd1
     have hB2 : Below w.heap.size w w2 := qaf (qab hB (qac _ _)) ht8 hB.size
     have k6 := qae ht8 (qaa (qac _ _) h6) (Nat.ne_of_lt (qag h6))
     have k7 := qae ht8 (qaa (qac _ _) h7) (Nat.ne_of_lt (qag h7))
     have hs12 := hB.size
     clear h6 h7 hB ht8)
  | (refine qdx rfl 89 _ rfl w1.heap.size 0 rfl 89 D.toArray h8 D (fun j v hv => by simpa using hv) _ Tryz.underlying89 rfl (by rw [hlen']; exact qbh) ?_)
  | (refine qaj rfl 89 _ _ rfl w.heap.size 0 _ D.toArray rfl rfl rfl 89 zD.toArray k6 (by rw [hlen]; decide) (by rw [hlen]; exact qbh) hone D.toArray hseg ?_
     intro w3 r6 ht6
     have r7 := qae ht6 k7 (by omega)
     have hB4 : Below w.heap.size w w3 := qaf hB2 ht6 (Nat.le_refl _)
     clear ht6 k6 k7 hB2)
  | (refine qaj rfl 50 _ _ rfl (w.heap.size + 1) 0 _ zF.toArray rfl rfl rfl 50 zF.toArray r7 (Nat.le_refl 2) qap (qch 0 0) zF.toArray rfl ?_
     intro w4 q7 ht7
     have q6 := qae ht7 r6 (by omega)
     have hB5 : Below w.heap.size w w4 := qaf hB4 ht7 (by omega)
     clear ht7 r6 r7 hB4))
 refine bodyPost_ret (v := .tuple #[.agg D.toArray, .agg zF.toArray]) ?_ rfl ⟨rfl, hB5⟩
 exact qas (p := 6) (q := 7) rfl _ _ w.heap.size (w.heap.size + 1) 89 50 _ _ _ _ _ _ rfl q6 Tryz.underlying89 rfl (by rw [hlen]; exact qbh) rfl q7 Tryz.underlying50 rfl qap
theorem zP17x02 {Z : Prop} (z : Z := by
 have hlt := World.block_lt_of_cell? _ _ hcS1
 have hq := cell_later (qac w1 (.cells #[.int .i64 0, .int .u64 0, .bool false, .bool false, .bool false, .bool false, .int .i64 0] 89)) hcS1
 exact (World.cell?_of_block (a := ⟨a, 0, none⟩) (ht8.block a (by simp at hlt ⊢; omega) (Nat.ne_of_lt hlt))).trans hq) : Z := z
theorem meaning_out (l : Int) (x : Nat) {a S : Nat} (w : World) (hF : Flds w) (D : List Value) (hl : isLv l = true) (K : Int) (hK : K = 2 ∨ K = 3) (O : Nat) (h7D : Seven D K O) (hO : O < 18446744073709551616) (hcS : w.cell? ⟨a, 0, none⟩ = some (.int .u64 S)) (hS : S ≤ 4294967296) (hh : holdsB S O (lowK l) = false)
  (hD : ∀ w1, Flds w1 → Calls Tryz.prog 83 #[.int .i64 l, .int .u64 x] w1 fun e w' => e = .returned (.tuple #[.agg D.toArray, .int .i64 0]) ∧ Below w1.heap.size w1 w') :
  Calls Tryz.prog 138 #[.pointer (some ⟨a, 0, none⟩), .int .i64 l, .int .u64 x] w fun e w' => e = .returned (.tuple #[.agg zD.toArray, .agg #[.int .i64 4, .int .i64 l]]) ∧ Below w.heap.size w w' := by
 rcases hK with rfl | rfl
 all_goals
  obtain ⟨hlen, hlen', hone, hseg, hd0, hd1⟩ := h7D
  have hlk := (qcg hl).1
  have HS := fun (wx : World) (hc : wx.cell? ⟨a, 0, none⟩ = some (.int .u64 S)) => holds_any hc hS O (lowK l) hO (lowK_cases hl)
  go_enter Tryz.func138, Tryz.ntmps138
  go_wp2_with fail
  refine (hD _ ((hF.alloc _).alloc _)).mono ?_
  rintro e w1 ⟨rfl, hb⟩
  have hB : Below w.heap.size w w1 := qab (qab (qac _ _) (qac _ _)) hb
  have h6 : w1.heap[w.heap.size]? = some (.cells zD.toArray 89 (0, 0)) := qaa hb (heap_alloc2_old _ _ _)
  have h7 : w1.heap[w.heap.size + 1]? = some (.cells zF.toArray 50 (0, 0)) := qaa hb (heap_alloc2_new _ _ _)
  have hcS1 := cell_later hB hcS
  clear hb hD hcS
  go_wp2_with (first
   | (refine qaj rfl 89 _ _ rfl w1.heap.size 0 _ D.toArray rfl rfl rfl 89 zD.toArray (heap_alloc_new _ _) (by rw [hlen]; decide) (by rw [hlen]; exact qbh) hone D.toArray hseg ?_
      intro w2 h8 ht8
      have c80 := (cell_of_row w2 w1.heap.size 0 _ _ _ h8).trans hd0
      have c81 := (cell_of_row w2 w1.heap.size 1 _ _ _ h8).trans hd1
      have hB2 : Below w.heap.size w w2 := qaf (qab hB (qac _ _)) ht8 hB.size
      have k6 := qae ht8 (qaa (qac _ _) h6) (Nat.ne_of_lt (qag h6))
      have k7 := qae ht8 (qaa (qac _ _) h7) (Nat.ne_of_lt (qag h7))
      have hcS2 : w2.cell? ⟨a, 0, none⟩ = some (.int .u64 S) := by
       exact zP17x02
      have hs12 := hB.size
      clear h6 h7 hB ht8 hcS1)
   | fail)
  go_quiet (first
   | (go_at_call 115; refine Calls.quiet_of_same ((qcd _ _).mono (fun e w1 hh => ⟨by rw [hh.1, hlk], hh.2.symm⟩)))
   | (go_at_call 148; refine Calls.quiet_of ((HS _ (by exact hcS2)).mono (fun e w1 hq => ⟨by rw [hq.1, hh], hq.2⟩))))
  have hB3 : Below w.heap.size w (w2.drewN nq) := qab hB2 (qco ⟨_, rfl⟩)
  have k6' : (w2.drewN nq).heap[w.heap.size]? = _ := k6
  have k7' : (w2.drewN nq).heap[w.heap.size + 1]? = _ := k7
  have h8' : (w2.drewN nq).heap[w1.heap.size]? = _ := h8
  clear hB2 k6 k7 h8 hcS2 c80 c81 HS
  generalize w2.drewN nq = w2' at *
  go_wp2_with (first
   | (refine qaj rfl 89 _ _ rfl w.heap.size 0 _ zD.toArray rfl rfl rfl 89 zD.toArray k6' (by decide) (by exact qbh) zD_one zD.toArray rfl ?_
      intro w3 r6 ht6
      have r7 := qae ht6 k7' (by omega)
      have hB4 : Below w.heap.size w w3 := qaf hB3 ht6 (Nat.le_refl _)
      clear ht6 k6' k7' hB3)
   | (refine qaj rfl 50 _ _ rfl (w.heap.size + 1) 0 _ #[.int .i64 4, .int .i64 l] rfl rfl rfl 50 zF.toArray r7 (Nat.le_refl 2) qap (qch 4 l) #[.int .i64 4, .int .i64 l] rfl ?_
      intro w4 q7 ht7
      have q6 := qae ht7 r6 (by omega)
      have hB5 : Below w.heap.size w w4 := qaf hB4 ht7 (by omega)
      clear ht7 r6 r7 hB4))
  refine bodyPost_ret (v := .tuple #[.agg zD.toArray, .agg #[.int .i64 4, .int .i64 l]]) ?_ rfl ⟨rfl, hB5⟩
  exact qas (p := 6) (q := 7) rfl _ _ w.heap.size (w.heap.size + 1) 89 50 _ _ _ _ _ _ rfl q6 Tryz.underlying89 rfl (by exact qbh) rfl q7 Tryz.underlying50 rfl qap
theorem meaning_leaf (l : Int) (x : Nat) {a S : Nat} (w : World) (hF : Flds w) (D : List Value) (hl : isLv l = true) (K : Int) (hK : K = 2 ∨ K = 3) (O : Nat) (h7D : Seven D K O) (hO : O < 18446744073709551616) (hcS : w.cell? ⟨a, 0, none⟩ = some (.int .u64 S)) (hS : S ≤ 4294967296) (hh : holdsB S O (lowK l) = true)
  (hD : ∀ w1, Flds w1 → Calls Tryz.prog 83 #[.int .i64 l, .int .u64 x] w1 fun e w' => e = .returned (.tuple #[.agg D.toArray, .int .i64 0]) ∧ Below w1.heap.size w1 w') :
  Calls Tryz.prog 138 #[.pointer (some ⟨a, 0, none⟩), .int .i64 l, .int .u64 x] w fun e w' => e = .returned (.tuple #[.agg D.toArray, .agg zF.toArray]) ∧ Below w.heap.size w w' := by
 rcases hK with rfl | rfl
 all_goals
  obtain ⟨hlen, hlen', hone, hseg, hd0, hd1⟩ := h7D
  have hlk := (qcg hl).1
  have HS := fun (wx : World) (hc : wx.cell? ⟨a, 0, none⟩ = some (.int .u64 S)) => holds_any hc hS O (lowK l) hO (lowK_cases hl)
  go_enter Tryz.func138, Tryz.ntmps138
  go_wp2_with fail
  refine (hD _ ((hF.alloc _).alloc _)).mono ?_
  rintro e w1 ⟨rfl, hb⟩
  have hB : Below w.heap.size w w1 := qab (qab (qac _ _) (qac _ _)) hb
  have h6 : w1.heap[w.heap.size]? = some (.cells zD.toArray 89 (0, 0)) := qaa hb (heap_alloc2_old _ _ _)
  have h7 : w1.heap[w.heap.size + 1]? = some (.cells zF.toArray 50 (0, 0)) := qaa hb (heap_alloc2_new _ _ _)
  have hcS1 := cell_later hB hcS
  clear hb hD hcS
  go_wp2_with (first
   | (refine qaj rfl 89 _ _ rfl w1.heap.size 0 _ D.toArray rfl rfl rfl 89 zD.toArray (heap_alloc_new _ _) (by rw [hlen]; decide) (by rw [hlen]; exact qbh) hone D.toArray hseg ?_
      intro w2 h8 ht8
      have c80 := (cell_of_row w2 w1.heap.size 0 _ _ _ h8).trans hd0
      have c81 := (cell_of_row w2 w1.heap.size 1 _ _ _ h8).trans hd1
      have hB2 : Below w.heap.size w w2 := qaf (qab hB (qac _ _)) ht8 hB.size
      have k6 := qae ht8 (qaa (qac _ _) h6) (Nat.ne_of_lt (qag h6))
      have k7 := qae ht8 (qaa (qac _ _) h7) (Nat.ne_of_lt (qag h7))
      have hcS2 : w2.cell? ⟨a, 0, none⟩ = some (.int .u64 S) := by
       exact zP17x02
      have hs12 := hB.size
      clear h6 h7 hB ht8 hcS1)
   | fail)
  go_quiet (first
   | (go_at_call 115; refine Calls.quiet_of_same ((qcd _ _).mono (fun e w1 hh => ⟨by rw [hh.1, hlk], hh.2.symm⟩)))
   | (go_at_call 148; refine Calls.quiet_of ((HS _ (by exact hcS2)).mono (fun e w1 hq => ⟨by rw [hq.1, hh], hq.2⟩))))
  have hB3 : Below w.heap.size w (w2.drewN nq) := qab hB2 (qco ⟨_, rfl⟩)
  have k6' : (w2.drewN nq).heap[w.heap.size]? = _ := k6
  have k7' : (w2.drewN nq).heap[w.heap.size + 1]? = _ := k7
  have h8' : (w2.drewN nq).heap[w1.heap.size]? = _ := h8
  clear hB2 k6 k7 h8 hcS2 c80 c81 HS
  generalize w2.drewN nq = w2' at *
  go_wp2_with (first
   | (refine qdx rfl 89 _ rfl w1.heap.size 0 rfl 89 D.toArray h8' D (fun j v hv => by simpa using hv) _ Tryz.underlying89 rfl (by rw [hlen']; exact qbh) ?_)
   | (refine qaj rfl 89 _ _ rfl w.heap.size 0 _ D.toArray rfl rfl rfl 89 zD.toArray k6' (by rw [hlen]; decide) (by rw [hlen]; exact qbh) hone D.toArray hseg ?_
      intro w3 r6 ht6
      have r7 := qae ht6 k7' (by omega)
      have hB4 : Below w.heap.size w w3 := qaf hB3 ht6 (Nat.le_refl _)
      clear ht6 k6' k7' hB3)
   | (refine qaj rfl 50 _ _ rfl (w.heap.size + 1) 0 _ zF.toArray rfl rfl rfl 50 zF.toArray r7 (Nat.le_refl 2) qap (qch 0 0) zF.toArray rfl ?_
      intro w4 q7 ht7
      have q6 := qae ht7 r6 (by omega)
      have hB5 : Below w.heap.size w w4 := qaf hB4 ht7 (by omega)
      clear ht7 r6 r7 hB4))
  refine bodyPost_ret (v := .tuple #[.agg D.toArray, .agg zF.toArray]) ?_ rfl ⟨rfl, hB5⟩
  exact qas (p := 6) (q := 7) rfl _ _ w.heap.size (w.heap.size + 1) 89 50 _ _ _ _ _ _ rfl q6 Tryz.underlying89 rfl (by rw [hlen]; exact qbh) rfl q7 Tryz.underlying50 rfl qap
theorem meaning_any (l : Int) (x : Nat) (hl : isLv l = true) (hx : x < 18446744073709551616) {a S : Nat} (w : World) (hF : Flds w) (hcS : w.cell? ⟨a, 0, none⟩ = some (.int .u64 S)) (hS : S ≤ 4294967296) :
  Calls Tryz.prog 138 #[.pointer (some ⟨a, 0, none⟩), .int .i64 l, .int .u64 x] w fun e w' => e = .returned (.tuple #[.agg (mD S l x).toArray, .agg (mFt S l x).toArray]) ∧ Below w.heap.size w w' := by
 cases hg : qde l x
 ·have hm : mf S l x = 4 := by unfold mf; rw [if_pos hg]
  have e1 : mD S l x = zD := by unfold mD; rw [hm]; rfl
  have e2 : mFt S l x = [.int .i64 4, .int .i64 l] := by unfold mFt; rw [hm]; rfl
  rw [e1, e2]
  exact meaning_fail l x w hF zD 0 seven_zD (fun w1 h => decode_fail l x hl hx hg w1 h)
 ·have hD := fun w1 h => qfo l x hl hx hg w1 h
  rw [rdV_d7] at hD
  have h7 := seven_d7 l x
  have hng : ¬ qde l x = false := by rw [hg]; decide
  rcases rdK_range l x with hk | hk | hk
  ·have hm : mf S l x = 1 := by unfold mf; rw [if_neg hng, if_pos hk]
   have e1 : mD S l x = zD := by unfold mD; rw [hm]; rfl
   have e2 : mFt S l x = [.int .i64 1, .int .i64 l] := by unfold mFt; rw [hm]; rfl
   rw [e1, e2]
   rw [hk] at h7
   exact meaning_inv l x w hF _ _ h7 hD
  ·have hm : mf S l x = 0 := by unfold mf; rw [if_neg hng, if_neg (by rw [hk]; decide), if_neg (fun c => c.1 hk)]
   have e1 : mD S l x = d7 l x := by unfold mD; rw [if_pos hm]
   have e2 : mFt S l x = zF := by unfold mFt; rw [if_pos hm]
   rw [e1, e2]
   rw [hk] at h7
   exact meaning_tab l x w hF _ _ h7 hD
  ·have h0 : ¬ rdK l x = 0 := by rcases hk with hk | hk <;> rw [hk] <;> decide
   have h1 : rdK l x ≠ 1 := by rcases hk with hk | hk <;> rw [hk] <;> decide
   have ho := rdO_lt x
   cases hh : holdsB S (rdO x) (lowK l)
   ·have hb := of_decide_eq_false hh
    have hm : mf S l x = 4 := by unfold mf; rw [if_neg hng, if_neg h0, if_pos ⟨h1, by omega⟩]
    have e1 : mD S l x = zD := by unfold mD; rw [hm]; rfl
    have e2 : mFt S l x = [.int .i64 4, .int .i64 l] := by unfold mFt; rw [hm]; rfl
    rw [e1, e2]
    exact meaning_out l x w hF _ hl _ hk _ h7 ho hcS hS hh hD
   ·have hb := of_decide_eq_true hh
    have hm : mf S l x = 0 := by unfold mf; rw [if_neg hng, if_neg h0, if_neg (fun c => by omega)]
    have e1 : mD S l x = d7 l x := by unfold mD; rw [if_pos hm]
    have e2 : mFt S l x = zF := by unfold mFt; rw [if_pos hm]
    rw [e1, e2]
    exact meaning_leaf l x w hF _ hl _ hk _ h7 ho hcS hS hh hD
theorem qee : ∀ L : WL, (pcs L).length = 2 * L.length
 | [] => rfl
 | p :: L => by simp only [pcs, List.length_cons, qee L]; omega
def wayL (L : WL) (n : Nat) (lf ft : List Value) : List Value := pcs L ++ (List.replicate (8 - 2 * L.length) (Value.int .u64 0) ++ (.int .i64 n :: (lf ++ ft)))
def wayR (r : WL × Int × Int × Nat) : List Value := wayL r.1 r.1.length (qeg r.2) (qcj r.2)
theorem segA_app (A M C vs : List Value) (o : Nat) (hA : A.length = o) (hM : M.length = vs.length) : segA (A ++ (M ++ C)).toArray o vs = (A ++ (vs ++ C)).toArray := by
 subst hA
 unfold segA
 congr 1
 rw [List.take_left' rfl, List.drop_append, ← hM, List.append_assoc]
 congr 2
 rw [show A.length + M.length - A.length = M.length by omega, List.drop_eq_nil_of_le (show A.length ≤ A.length + M.length by omega), List.nil_append]
 exact List.drop_left' rfl
section
variable (L : WL) (n : Nat) (lf ft : List Value)
theorem wayL_step (a x : Nat) (hL : L.length ≤ 3) : segA (wayL L n lf ft).toArray (L.length * 2) [.int .u64 a, .int .u64 x] = (wayL (L ++ [(a, x)]) n lf ft).toArray := by
 rw [Nat.mul_comm]
 have e : List.replicate (8 - 2 * L.length) (Value.int .u64 0) = [Value.int .u64 0, .int .u64 0] ++ List.replicate (8 - 2 * (L ++ [(a, x)]).length) (Value.int .u64 0) := by
  rw [List.length_append, show 8 - 2 * L.length = (8 - 2 * (L.length + [(a, x)].length)) + 1 + 1 by simp; omega]
  rfl
 unfold wayL
 rw [e, List.append_assoc, segA_app _ _ _ [.int .u64 a, .int .u64 x] _ (qee L) (show [Value.int .u64 0, .int .u64 0].length = 2 from rfl), pcs_append, List.append_assoc]
 rfl
theorem wayL_read (n' : Nat) (hL : L.length ≤ 4) : segA (wayL L n lf ft).toArray 8 [.int .i64 n'] = (wayL L n' lf ft).toArray := by
 unfold wayL
 rw [← List.append_assoc, show (Value.int .i64 n :: (lf ++ ft)) = [Value.int .i64 n] ++ (lf ++ ft) from rfl, segA_app _ _ _ [.int .i64 n'] _ (by simp [qee]; omega) (show [Value.int .i64 n].length = 1 from rfl), List.append_assoc]
 rfl
theorem wayL_leaf (lf' : List Value) (hL : L.length ≤ 4) (h : lf.length = lf'.length) : segA (wayL L n lf ft).toArray 9 lf' = (wayL L n lf' ft).toArray := by
 have e : ∀ q : List Value, wayL L n q ft = (pcs L ++ List.replicate (8 - 2 * L.length) (Value.int .u64 0) ++ [Value.int .i64 n]) ++ (q ++ ft) := fun q => by unfold wayL; simp
 rw [e, e, segA_app _ _ _ _ _ (by simp [qee]; omega) h]
theorem wayL_fault (ft' : List Value) (hL : L.length ≤ 4) (hl : lf.length = 8) (h : ft.length = ft'.length) : segA (wayL L n lf ft).toArray 17 ft' = (wayL L n lf ft').toArray := by
 have e : ∀ q : List Value, wayL L n lf q = (pcs L ++ List.replicate (8 - 2 * L.length) (Value.int .u64 0) ++ [Value.int .i64 n] ++ lf) ++ (q ++ []) := fun q => by unfold wayL; simp
 rw [e, e, segA_app _ _ _ _ _ (by simp [qee, hl]; omega) h]
theorem wayL_len (hL : L.length ≤ 4) (hl : lf.length = 8) (hf : ft.length = 2) : (wayL L n lf ft).length = 19 := by
 unfold wayL; simp [qee, hl, hf]; omega
theorem qbs (hL : L.length ≤ 4) (hl : lf.length = 8) (hf : ft.length = 2) : (wayL L n lf ft).toArray.size = 19 := (List.size_toArray ..).trans (wayL_len L n lf ft hL hl hf)
theorem wayL_n (hL : L.length ≤ 4) : (wayL L n lf ft)[8]? = some (.int .i64 n) := by
 unfold wayL
 rw [← List.append_assoc, List.getElem?_append_right (by simp [qee]; omega)]
 have : 8 - (pcs L ++ List.replicate (8 - 2 * L.length) (Value.int IntKind.u64 0)).length = 0 := by simp [qee]; omega
 rw [this]; rfl
theorem pcs_one : ∀ L : WL, ∀ v ∈ pcs L, v.oneCell' = true
 | [], v, h => by cases h
 | p :: L, v, h => by
  simp only [pcs, List.mem_cons] at h
  rcases h with rfl | rfl | h
  ·rfl
  ·rfl
  ·exact pcs_one L v h
theorem wayL_one (h1 : ∀ v ∈ lf, v.oneCell' = true) (h2 : ∀ v ∈ ft, v.oneCell' = true) : (wayL L n lf ft).toArray.all (·.oneCell') = true := by
 refine all_oneCell_toArray fun v hv => ?_
 unfold wayL at hv
 simp only [List.mem_append, List.mem_cons, List.mem_replicate] at hv
 rcases hv with h | h | h | h | h
 ·exact pcs_one L v h
 ·rw [h.2]; rfl
 ·rw [h]; rfl
 ·exact h1 v h
 ·exact h2 v h
end
theorem one_zL : ∀ v ∈ zL, v.oneCell' = true := by simp [zL, zD, Value.oneCell']
theorem one_zF : ∀ v ∈ zF, v.oneCell' = true := by simp [zF, Value.oneCell']
theorem one_leaf (l : Int) (x : Nat) : ∀ v ∈ Value.int .i64 l :: d7 l x, v.oneCell' = true := by simp [d7, Value.oneCell']
theorem one_two (k l : Int) : ∀ v ∈ [Value.int .i64 k, .int .i64 l], v.oneCell' = true := by simp [Value.oneCell']
theorem qci : (Tryz.prog.info? 199).map (·.size) = some 19 := by kernel_rfl
theorem qbd : (Tryz.prog.info? 112).map (·.size) = some 8 := by kernel_rfl
theorem info_step : (Tryz.prog.info? 46).map (·.size) = some 2 := by kernel_rfl
theorem info_int : (Tryz.prog.info? 3).map (·.size) = some 1 := by kernel_rfl
theorem rdO_mod (x : Nat) : rdO x % 4096 = 0 := by
 unfold rdO
 split
 ·rfl
 ·show outV x % 4096 = 0
  have h := mask_mod (l := 12) (n := 36) (by decide) x
  unfold outV
  have h2 : x &&& qcn 12 36 = x / 2 ^ 12 % 2 ^ 36 * 2 ^ 12 := h
  rw [h2]
  exact Nat.mul_mod_left _ _
theorem wayR_none : wayR ([], 1, 0, 0) = wayL [] 0 zL [.int .i64 1, .int .i64 0] := rfl
theorem follow_bad (l : Int) (tb va : Nat) (htl : tb < 18446744073709551616) (h : isTab l tb = false ∨ (isTab l tb = true ∧ lowB va = false)) (v : Value) (w : World) :
  Calls Tryz.prog 116 #[v, .int .i64 l, .int .u64 tb, .int .u64 va] w fun e w' => e = .returned (.agg (wayR ([], 1, 0, 0)).toArray) ∧ Below w.heap.size w w' := by
 rw [wayR_none]
 go_enter Tryz.func116, Tryz.ntmps116
 go_wp2_with fail
 refine (isTable_any l tb htl _).mono ?_
 rintro e w1 ⟨rfl, hw1⟩
 have h8 : w1.heap[w.heap.size]? = some (.cells (wayL [] 0 zL zF).toArray 199 (0, 0)) := by rw [← hw1]; exact heap_alloc2_old _ _ _
 have h9 : w1.heap[w.heap.size + 1]? = some (.cells (wayL [] 0 zL zF).toArray 199 (0, 0)) := by rw [← hw1]; exact heap_alloc2_new _ _ _
 have hB : Below w.heap.size w w1 := by rw [← hw1]; exact qab (qac _ _) (qac _ _)
 clear hw1
 rcases h with h | ⟨h, h'⟩
 all_goals
  rw [h]
  go_wp2_with (first
   | (go_at_call 122; refine (low_any va _).mono ?_; rintro e w2 ⟨rfl, rfl⟩; rw [h'])
   | (refine qaj rfl 50 _ _ rfl (w.heap.size + 1) 17 _ #[.int .i64 1, .int .i64 0] rfl rfl rfl 199 _ h9 (Nat.le_refl 19) qap (qch 1 0) _ (wayL_fault [] 0 zL zF [.int .i64 1, .int .i64 0] (by decide) rfl rfl) ?_
      intro w2 k9 ht
      have k8 := qae ht h8 (by omega)
      have hB2 := qaf hB ht (by omega)
      clear ht h8 h9 hB)
   | (refine wpList_load_row rfl 199 _ rfl (w.heap.size + 1) rfl _ _ _ _ k9 Tryz.underlying199 rfl qci ?_)
   | (refine wpList_store_row rfl 199 _ _ rfl w.heap.size (wayL [] 0 zL [.int .i64 1, .int .i64 0]).toArray rfl rfl 199 _ k8 qci rfl (wayL_one _ _ _ _ one_zL (one_two _ _)) ?_))
  refine bodyPost_ret (v := .agg (wayL [] 0 zL [.int .i64 1, .int .i64 0]).toArray) ?_ rfl ⟨rfl, below_setRow hB2 (Nat.le_refl _) _⟩
  exact results_cell_row rfl _ _ w.heap.size 199 _ _ _ rfl (setRow_heap _ _ _ _ _ _ k8) Tryz.underlying199 rfl qci
theorem rdK_deep (x : Nat) : rdK 3 x ≠ 1 := by
 unfold rdK
 split
 ·decide
 ·rw [if_neg (by simp)]
  split <;> decide
structure FRel (w wr : World) (S : Nat) (f : Nat → Nat) (va : Nat) (r0 : WL × Int × Int × Nat) (k tb : Nat) (L : WL) : Prop where
 k3 : k ≤ 3
 tm : tb % 4096 = 0
 tl : tb < 18446744073709551616
 ll : L.length + k ≤ 3
 h8 : wr.heap[w.heap.size]? = some (.cells (wayL [] 0 zL zF).toArray 199 (0, 0))
 h9 : wr.heap[w.heap.size + 1]? = some (.cells (wayL L L.length zL zF).toArray 199 (0, 0))
 bel : Below w.heap.size w wr
 e1 : L ++ (wk S f va (k + 1) tb).1 = r0.1
 e2 : (wk S f va (k + 1) tb).2 = r0.2
theorem zP17x03 {Z : Prop} (z : Z := by
 refine bodyPost_ret (v := .agg (wayR r0).toArray) ?_ rfl ⟨rfl, below_setRow hB2 (Nat.le_refl _) _⟩
 rw [HW.out]
 exact results_cell_row rfl _ _ w.heap.size 199 _ _ _ rfl (setRow_heap _ _ _ _ _ _ k8) Tryz.underlying199 rfl (by rw [qbs _ _ _ _ hL4 rfl rfl]; exact qci)) : Z := z
theorem follow_ok (l0 : Int) (tb0 va : Nat) (hl0 : isLv l0 = true) (htm : tb0 % 4096 = 0) (htl : tb0 < 18446744073709551616) (hva : va < 281474976710656) {w : World} {X : Nat → Prop} {a S n : Nat} {f : Nat → Nat} (hM : qcw w X a S n f) (hF : Flds w) :
  Calls Tryz.prog 116 #[.pointer (some ⟨a, 0, none⟩), .int .i64 l0, .int .u64 tb0, .int .u64 va] w fun e w' => e = .returned (.agg (wayR (wk S f va (4 - l0).toNat tb0)).toArray) ∧ Below w.heap.size w w' := by
 have hS : S ≤ 4294967296 := by obtain ⟨_, _, h⟩ := hM; exact h.s0.2.1
 have hcS : w.cell? ⟨a, 0, none⟩ = some (.int .u64 S) := by obtain ⟨_, _, h⟩ := hM; exact h.c0
 have hfl : ∀ x, f x < 18446744073709551616 := by obtain ⟨_, _, h⟩ := hM; exact h.fl
 have hv64 : va < 18446744073709551616 := by omega
 have h4 := qdf hl0
 generalize hr0 : wk S f va (4 - l0).toNat tb0 = r0
 have HM := Hid.mk hM
 have HF := Hid.mk hF
 have HC := Hid.mk hcS
 have HL := Hid.mk hfl
 have HR0 := Hid.mk hr0
 have hT : isTab l0 tb0 = true := by unfold isTab; rw [hl0]; exact decide_eq_true htm
 have hLo : lowB va = true := decide_eq_true hva
 clear hM hF hcS hfl hr0
 go_enter Tryz.func116, Tryz.ntmps116
 go_wp2_with fail
 refine (isTable_any l0 tb0 htl _).mono ?_
 rintro e w1 ⟨rfl, hw1⟩
 have h8 : w1.heap[w.heap.size]? = some (.cells (wayL [] 0 zL zF).toArray 199 (0, 0)) := by rw [← hw1]; exact heap_alloc2_old _ _ _
 have h9 : w1.heap[w.heap.size + 1]? = some (.cells (wayL [] 0 zL zF).toArray 199 (0, 0)) := by rw [← hw1]; exact heap_alloc2_new _ _ _
 have hB : Below w.heap.size w w1 := by rw [← hw1]; exact qab (qac _ _) (qac _ _)
 clear hw1
 rw [hT]
 go_wp2_with (go_at_call 122; refine (low_any va _).mono ?_; rintro e w2 ⟨rfl, rfl⟩; rw [hLo])
 have hst : FRel w w1 S f va r0 (3 - l0).toNat tb0 [] := ⟨by omega, htm, htl, by simp; omega, h8, h9, hB, by rw [List.nil_append, show (3 - l0).toNat + 1 = (4 - l0).toNat by omega, HR0.out], by rw [show (3 - l0).toNat + 1 = (4 - l0).toNat by omega, HR0.out]⟩
 have HST := Hid.mk hst
 clear hst h8 h9 hB hT hLo
 go_loopw [1, 2] (fun s1 s2 wr => ∃ (k tb : Nat) (L : WL), s1 = .int .i64 (3 - (k : Int)) ∧ s2 = .int .u64 tb ∧ FRel w wr S f va r0 k tb L) (fun s1 _ _ => (3 - intOf s1).toNat)
 case atStart => exact ⟨(3 - l0).toNat, tb0, [], by congr 1; omega, rfl, HST.out⟩
 case round =>
  clear HST HR0
  obtain ⟨k, tb, L, rfl, rfl, hR⟩ := hrel
  obtain ⟨hk3, htm', htl', hll, h8, h9, hB, he1, he2⟩ := hR
  have hlv : isLv (3 - (k : Int)) = true := decide_eq_true (by omega)
  generalize hl : (3 - (k : Int)) = l at *
  have hix : idxI va l = ((idxN va l : Nat) : Int) := by unfold idxI; rw [if_pos hlv]
  have hI := fun w => index_any va l hv64 w
  rw [hix] at hI
  have hi := idxN_lt va l
  have hE := fun w => entry_any tb (idxN va l) hi htm' htl' w
  generalize htt : tb + 8 * idxN va l = t at *
  have ht64 : t < 18446744073709551616 := by omega
  generalize hii : idxN va l = i at *
  clear hix
  go_wp2_with fail
  refine (hI _).mono ?_
  rintro e w2 ⟨rfl, hb⟩
  obtain ⟨h8, h9⟩ := bl2 hb h8 h9
  replace hB := qab hB hb
  clear hb hI
  go_wp2_with fail
  refine (hE _).mono ?_
  rintro e w3 ⟨rfl, rfl⟩
  clear hE
  go_wp2_with fail
  refine (read_c (HM.out.below hB) t ht64).mono ?_
  rintro e w4 ⟨rfl, hb⟩
  obtain ⟨h8, h9⟩ := bl2 hb h8 h9
  replace hB := qab hB hb
  clear hb
  have hx64 := HL.out t
  by_cases he : errA S t = 0
  ·rw [he]
   have c98 := (cell_of_row _ (w.heap.size + 1) 8 _ _ _ h9).trans ((List.getElem?_toArray ..).trans (wayL_n L L.length zL zF (by omega)))
   have hN4 : (L.length : Int) < 4 := by omega
   have HT := Hid.mk (And.intro htt he)
   generalize hfx : f t = x at *
   have hLL : (L ++ [(t, x)]).length = L.length + 1 := by simp
   have hL4 : (L ++ [(t, x)]).length ≤ 4 := by omega
   clear he
   go_wp2_with (first
    | (refine qaj rfl 46 _ _ rfl (w.heap.size + 1) (L.length * 2) _ #[.int .u64 t, .int .u64 x] rfl rfl rfl 199 _ h9 (by rw [qbs _ _ _ _ (by omega) rfl rfl]; show L.length * 2 + 2 ≤ 19; omega) info_step (by simp [Value.oneCell']) _ (wayL_step L L.length zL zF t x (by omega)) ?_
       intro w5 k9 ht
       have k8 := qae ht h8 (by omega)
       have hB1 := qaf hB ht (by omega)
       have d98 := (cell_of_row _ (w.heap.size + 1) 8 _ _ _ k9).trans ((List.getElem?_toArray ..).trans (wayL_n (L ++ [(t, x)]) L.length zL zF hL4))
       clear ht h8 h9 hB c98)
    | (refine qaj rfl 3 _ _ rfl (w.heap.size + 1) 8 (.int .i64 ((L ++ [(t, x)]).length : Nat)) #[.int .i64 ((L ++ [(t, x)]).length : Nat)] rfl (by rw [hLL]; rfl) rfl 199 _ k9 (by rw [qbs _ _ _ _ hL4 rfl rfl]; show 8 + 1 ≤ 19; omega) info_int (by simp [Value.oneCell']) _ (wayL_read (L ++ [(t, x)]) L.length zL zF _ hL4) ?_
       intro w6 h9 ht
       have h8 := qae ht k8 (by omega)
       have hB := qaf hB1 ht (by omega)
       clear ht k8 k9 hB1 d98)
    | fail)
   refine (meaning_any l x hlv hx64 _ (HF.out.later hB) (cell_later hB HC.out) hS).mono ?_
   rintro e w7 ⟨rfl, hb⟩
   obtain ⟨h8, h9⟩ := bl2 hb h8 h9
   replace hB := qab hB hb
   clear hb
   have HT2 : Hid (t = tb + 8 * idxN va l) := by show t = _; rw [hii, htt]
   by_cases hm : mf S l x = 0
   ·have e1 : mD S l x = d7 l x := by unfold mD; rw [if_pos hm]
    have e2 : mFt S l x = zF := by unfold mFt; rw [if_pos hm]
    rw [e1, e2]
    have h7 := seven_d7 l x
    clear e1 e2
    by_cases hk : rdK l x = 1
    ·have hk0 : k ≠ 0 := by
      rintro rfl
      have : l = 3 := by omega
      subst this
      exact rdK_deep x hk
     have hw := wk_table (f := f) (va := va) hl.symm HT2.out HT.out.2 (by rw [hfx]; exact hm) (by rw [hfx]; exact hk)
     rw [hfx] at hw
     rw [hw] at he1 he2
     have HE1 := Hid.mk he1
     have HE2 := Hid.mk he2
     rw [hk] at h7
     have hOm := rdO_mod x
     have hOl := rdO_lt x
     generalize rdO x = O at *
     generalize d7 l x = D at *
     clear he1 he2 hw hk hm
     go_wp2_with (first
    | (refine qaj rfl 89 _ _ rfl w7.heap.size 0 _ D.toArray rfl rfl rfl 89 zD.toArray (heap_alloc2_old _ _ _) (by rw [h7.len]; decide) (by rw [h7.len]; exact qbh) h7.one D.toArray h7.seg ?_
       intro w8 q13 ht
       have q14 := qae ht (heap_alloc2_new w7 _ _) (by omega)
       have p8 := qae ht (qaa (qab (qac _ _) (qac _ _)) h8) (Nat.ne_of_lt (qag h8))
       have p9 := qae ht (qaa (qab (qac _ _) (qac _ _)) h9) (Nat.ne_of_lt (qag h9))
       have hB0 := qaf (qab hB (qab (qac _ _) (qac _ _))) ht hB.size
       have hs7 := qag h9
       clear ht h8 h9 hB)
    | (refine qaj rfl 50 _ _ rfl (w7.heap.size + 1) 0 _ #[.int .i64 0, .int .i64 0] rfl rfl rfl 50 zF.toArray q14 (Nat.le_refl 2) qap (qch 0 0) #[.int .i64 0, .int .i64 0] rfl ?_
       intro w9 p14 ht
       have p13 := qae ht q13 (by omega)
       have h8 := qae ht p8 (by omega)
       have h9 := qae ht p9 (by omega)
       have hB := qaf hB0 ht (by omega)
       have c140 := cell_of_row w9 (w7.heap.size + 1) 0 _ _ _ p14
       have c141 := cell_of_row w9 (w7.heap.size + 1) 1 _ _ _ p14
       have c130 := (cell_of_row w9 w7.heap.size 0 _ _ _ p13).trans h7.c0
       have c131 := (cell_of_row w9 w7.heap.size 1 _ _ _ p13).trans h7.c1
       clear ht q13 q14 p8 p9 hB0 p14)
    | fail)
     go_quiet (fail)
     go_wp2
     refine ⟨⟨k - 1, O, L ++ [(t, x)], by congr 1; omega, rfl, ⟨by omega, hOm, hOl, by omega, h8, h9, qab hB (qco ⟨_, rfl⟩), ?_, ?_⟩⟩, by simp [intOf]; omega⟩
     ·rw [show k - 1 + 1 = k by omega, List.append_assoc]
      exact HE1.out
     ·rw [show k - 1 + 1 = k by omega]
      exact HE2.out
    ·have HW : Hid (wayR r0 = wayL (L ++ [(t, x)]) (L ++ [(t, x)]).length (.int .i64 l :: d7 l x) zF) := by
      show wayR r0 = _
      have hw := wk_leaf (f := f) (va := va) hl.symm HT2.out HT.out.2 (by rw [hfx]; exact hm) (by rw [hfx]; exact hk)
      rw [hfx] at hw
      rw [hw] at he1 he2
      unfold wayR
      rw [← he1, ← he2]
      rfl
     have hone8 : (#[.int .i64 l, .int .i64 (rdK l x), .int .u64 (rdO x : Nat), .bool (rdU l x), .bool (rdR l x), .bool (rdX l x), .bool (rdS l x), .int .i64 (rdA l x)] : Array Value).all (·.oneCell') = true := all_oneCell_toArray (one_leaf l x)
     clear he1 he2 hm
     go_wp2_with (first
    | (refine qaj rfl 89 _ _ rfl w7.heap.size 0 _ (d7 l x).toArray rfl rfl rfl 89 zD.toArray (heap_alloc2_old _ _ _) (by rw [h7.len]; decide) (by rw [h7.len]; exact qbh) h7.one (d7 l x).toArray h7.seg ?_
       intro w8 q13 ht
       have q14 := qae ht (heap_alloc2_new w7 _ _) (by omega)
       have p8 := qae ht (qaa (qab (qac _ _) (qac _ _)) h8) (Nat.ne_of_lt (qag h8))
       have p9 := qae ht (qaa (qab (qac _ _) (qac _ _)) h9) (Nat.ne_of_lt (qag h9))
       have hB0 := qaf (qab hB (qab (qac _ _) (qac _ _))) ht hB.size
       have hs7 := qag h9
       clear ht h8 h9 hB)
    | (refine qaj rfl 50 _ _ rfl (w7.heap.size + 1) 0 _ #[.int .i64 0, .int .i64 0] rfl rfl rfl 50 zF.toArray q14 (Nat.le_refl 2) qap (qch 0 0) #[.int .i64 0, .int .i64 0] rfl ?_
       intro w9 p14 ht
       have p13 := qae ht q13 (by omega)
       have h8 := qae ht p8 (by omega)
       have h9 := qae ht p9 (by omega)
       have hB := qaf hB0 ht (by omega)
       have c140 := cell_of_row w9 (w7.heap.size + 1) 0 _ _ _ p14
       have c141 := cell_of_row w9 (w7.heap.size + 1) 1 _ _ _ p14
       have c130 := (cell_of_row w9 w7.heap.size 0 _ _ _ p13).trans h7.c0
       have c131 := (cell_of_row w9 w7.heap.size 1 _ _ _ p13).trans h7.c1
       clear ht q13 q14 p8 p9 hB0 p14)
    | (refine qdx rfl 89 _ rfl w7.heap.size 0 rfl 89 (d7 l x).toArray p13 [.int .i64 (rdK l x), .int .u64 (rdO x : Nat), .bool (rdU l x), .bool (rdR l x), .bool (rdX l x), .bool (rdS l x), .int .i64 (rdA l x)] (fun j v hv => by rw [Nat.zero_add, List.getElem?_toArray]; exact hv) _ Tryz.underlying89 rfl qbh ?_)
    | (refine qaj rfl 112 _ _ rfl (w.heap.size + 1) 9 _ #[.int .i64 l, .int .i64 (rdK l x), .int .u64 (rdO x : Nat), .bool (rdU l x), .bool (rdR l x), .bool (rdX l x), .bool (rdS l x), .int .i64 (rdA l x)] rfl rfl rfl 199 _ h9 (by rw [qbs _ _ _ _ hL4 rfl rfl]; show 9 + 8 ≤ 19; omega) qbd hone8 _ (wayL_leaf (L ++ [(t, x)]) (L ++ [(t, x)]).length zL zF [.int .i64 l, .int .i64 (rdK l x), .int .u64 (rdO x : Nat), .bool (rdU l x), .bool (rdR l x), .bool (rdX l x), .bool (rdS l x), .int .i64 (rdA l x)] hL4 rfl) ?_
       intro w10 k9 ht
       have k8 := qae ht h8 (by omega)
       have hB2 := qaf hB ht (by omega)
       clear ht h8 h9 hB)
    | (refine wpList_load_row rfl 199 _ rfl (w.heap.size + 1) rfl _ _ _ _ k9 Tryz.underlying199 rfl (by rw [qbs _ _ _ _ hL4 rfl rfl]; exact qci) ?_)
    | (refine wpList_store_row rfl 199 _ _ rfl w.heap.size (wayL (L ++ [(t, x)]) (L ++ [(t, x)]).length (.int .i64 l :: d7 l x) zF).toArray rfl rfl 199 _ k8 (by rw [qbs _ _ _ _ hL4 rfl rfl]; exact qci) (by rw [qbs _ _ _ _ hL4 rfl rfl]; rfl) (wayL_one _ _ _ _ (one_leaf l x) one_zF) ?_))
     refine bodyPost_ret (v := .agg (wayR r0).toArray) ?_ rfl ⟨rfl, below_setRow hB2 (Nat.le_refl _) _⟩
     rw [HW.out]
     exact results_cell_row rfl _ _ w.heap.size 199 _ _ _ rfl (setRow_heap _ _ _ _ _ _ k8) Tryz.underlying199 rfl (by rw [qbs _ _ _ _ hL4 rfl rfl]; exact qci)
   ·have e1 : mD S l x = zD := by unfold mD; rw [if_neg hm]
    have e2 : mFt S l x = [.int .i64 (mf S l x), .int .i64 l] := by unfold mFt; rw [if_neg hm]
    rw [e1, e2]
    have h7 := seven_zD
    have HW : Hid (wayR r0 = wayL (L ++ [(t, x)]) (L ++ [(t, x)]).length zL [.int .i64 (mf S l x), .int .i64 l]) := by
     show wayR r0 = _
     have hw := qfi (f := f) (va := va) hl.symm HT2.out HT.out.2 (by rw [hfx]; exact hm)
     rw [hfx] at hw
     rw [hw] at he1 he2
     unfold wayR
     rw [← he1, ← he2]
     unfold qeg qcj
     rw [if_neg hm, if_neg hm]
    clear e1 e2
    generalize mf S l x = m at *
    go_wp2_with (first
    | (refine qaj rfl 89 _ _ rfl w7.heap.size 0 _ zD.toArray rfl rfl rfl 89 zD.toArray (heap_alloc2_old _ _ _) (by rw [h7.len]; decide) (by rw [h7.len]; exact qbh) h7.one zD.toArray h7.seg ?_
       intro w8 q13 ht
       have q14 := qae ht (heap_alloc2_new w7 _ _) (by omega)
       have p8 := qae ht (qaa (qab (qac _ _) (qac _ _)) h8) (Nat.ne_of_lt (qag h8))
       have p9 := qae ht (qaa (qab (qac _ _) (qac _ _)) h9) (Nat.ne_of_lt (qag h9))
       have hB0 := qaf (qab hB (qab (qac _ _) (qac _ _))) ht hB.size
       have hs7 := qag h9
       clear ht h8 h9 hB)
    | (refine qaj rfl 50 _ _ rfl (w7.heap.size + 1) 0 _ #[.int .i64 m, .int .i64 l] rfl rfl rfl 50 zF.toArray q14 (Nat.le_refl 2) qap (qch m l) #[.int .i64 m, .int .i64 l] rfl ?_
       intro w9 p14 ht
       have p13 := qae ht q13 (by omega)
       have h8 := qae ht p8 (by omega)
       have h9 := qae ht p9 (by omega)
       have hB := qaf hB0 ht (by omega)
       have c140 := cell_of_row w9 (w7.heap.size + 1) 0 _ _ _ p14
       have c141 := cell_of_row w9 (w7.heap.size + 1) 1 _ _ _ p14
       have c130 := (cell_of_row w9 w7.heap.size 0 _ _ _ p13).trans h7.c0
       have c131 := (cell_of_row w9 w7.heap.size 1 _ _ _ p13).trans h7.c1
       clear ht q13 q14 p8 p9 hB0 p14)
    | (refine qaj rfl 50 _ _ rfl (w.heap.size + 1) 17 _ #[.int .i64 m, .int .i64 l] rfl rfl rfl 199 _ h9 (by rw [qbs _ _ _ _ hL4 rfl rfl]; exact Nat.le_refl 19) qap (qch m l) _ (wayL_fault (L ++ [(t, x)]) (L ++ [(t, x)]).length zL zF [.int .i64 m, .int .i64 l] hL4 rfl rfl) ?_
       intro w10 k9 ht
       have k8 := qae ht h8 (by omega)
       have hB2 := qaf hB ht (by omega)
       clear ht h8 h9 hB)
    | (refine wpList_load_row rfl 199 _ rfl (w.heap.size + 1) rfl _ _ _ _ k9 Tryz.underlying199 rfl (by rw [qbs _ _ _ _ hL4 rfl rfl]; exact qci) ?_)
    | (refine wpList_store_row rfl 199 _ _ rfl w.heap.size (wayL (L ++ [(t, x)]) ((L ++ [(t, x)])).length zL [.int .i64 m, .int .i64 l]).toArray rfl rfl 199 _ k8 (by rw [qbs _ _ _ _ hL4 rfl rfl]; exact qci) (by rw [qbs _ _ _ _ hL4 rfl rfl]; rfl) (wayL_one _ _ _ _ one_zL (one_two _ _)) ?_))
    exact zP17x03
  ·have HW : Hid (wayR r0 = wayL L L.length zL [.int .i64 4, .int .i64 l]) := by
    show wayR r0 = _
    have hk := wk_err (f := f) (va := va) hl.symm (show t = tb + 8 * idxN va l by rw [hii, htt]) he
    rw [hk] at he1 he2
    unfold wayR
    rw [← he1, ← he2, List.append_nil]
    rfl
   have hL4 : L.length ≤ 4 := by omega
   generalize errA S t = E at *
   go_wp2_with (first
    | (refine qaj rfl 50 _ _ rfl (w.heap.size + 1) 17 _ #[.int .i64 4, .int .i64 l] rfl rfl rfl 199 _ h9 (by rw [qbs _ _ _ _ hL4 rfl rfl]; exact Nat.le_refl 19) qap (qch 4 l) _ (wayL_fault L L.length zL zF [.int .i64 4, .int .i64 l] hL4 rfl rfl) ?_
       intro w5 k9 ht
       have k8 := qae ht h8 (by omega)
       have hB2 := qaf hB ht (by omega)
       clear ht h8 h9 hB)
    | (refine wpList_load_row rfl 199 _ rfl (w.heap.size + 1) rfl _ _ _ _ k9 Tryz.underlying199 rfl (by rw [qbs _ _ _ _ hL4 rfl rfl]; exact qci) ?_)
    | (refine wpList_store_row rfl 199 _ _ rfl w.heap.size (wayL L (L).length zL [.int .i64 4, .int .i64 l]).toArray rfl rfl 199 _ k8 (by rw [qbs _ _ _ _ hL4 rfl rfl]; exact qci) (by rw [qbs _ _ _ _ hL4 rfl rfl]; rfl) (wayL_one _ _ _ _ one_zL (one_two _ _)) ?_))
   exact zP17x03
theorem follow_any (l : Int) (tb va : Nat) (htl : tb < 18446744073709551616) {w : World} {X : Nat → Prop} {a S n : Nat} {f : Nat → Nat} (hM : qcw w X a S n f) (hF : Flds w) :
  Calls Tryz.prog 116 #[.pointer (some ⟨a, 0, none⟩), .int .i64 l, .int .u64 tb, .int .u64 va] w fun e w' => e = .returned (.agg (wayR (wk0 S f l tb va)).toArray) ∧ Below w.heap.size w w' := by
 by_cases h : isLv l = true ∧ tb % 4096 = 0 ∧ va < 281474976710656
 ·rw [show wk0 S f l tb va = wk S f va (4 - l).toNat tb from if_pos h]
  exact follow_ok l tb va h.1 h.2.1 htl h.2.2 hM hF
 ·rw [show wk0 S f l tb va = ([], 1, 0, 0) from if_neg h]
  refine follow_bad l tb va htl ?_ _ w
  cases hT : isTab l tb
  ·exact Or.inl rfl
  ·refine Or.inr ⟨rfl, ?_⟩
   unfold isTab at hT
   rw [Bool.and_eq_true] at hT
   exact decide_eq_false fun c => h ⟨hT.1, of_decide_eq_true hT.2, c⟩
theorem wk_len (S : Nat) (f : Nat → Nat) (va : Nat) : ∀ k tb, (wk S f va k tb).1.length ≤ k
 | 0, _ => by unfold wk; exact Nat.le_refl _
 | k + 1, tb => by
  unfold wk
  simp only
  split
  ·exact Nat.zero_le _
  ·split
   ·simp
   ·split
    ·simp
    ·have := wk_len S f va k (rdO (f (tb + 8 * idxN va (3 - k))))
     simp only [List.length_cons]; omega
theorem wk0_len (S : Nat) (f : Nat → Nat) (l : Int) (tb va : Nat) : (wk0 S f l tb va).1.length ≤ 4 := by
 unfold wk0
 split
 ·rename_i h
  have h1 := qdf h.1
  have := wk_len S f va (4 - l).toNat tb
  omega
 ·exact Nat.zero_le _
theorem leaf_form (r : Int × Int × Nat) : ∃ (ll k : Int) (o : Nat) (u rr x s : Bool) (a : Int), qeg r = [.int .i64 ll, .int .i64 k, .int .u64 o, .bool u, .bool rr, .bool x, .bool s, .int .i64 a] := by
 unfold qeg
 split
 ·exact ⟨_, _, _, _, _, _, _, _, rfl⟩
 ·exact ⟨0, 0, 0, false, false, false, false, 0, rfl⟩
theorem fault_form (r : Int × Int × Nat) : ∃ k l : Int, qcj r = [.int .i64 k, .int .i64 l] := by
 unfold qcj
 split
 ·exact ⟨0, 0, rfl⟩
 ·exact ⟨_, _, rfl⟩
theorem wayL_at (L : WL) (n : Nat) (lf ft : List Value) (hL : L.length ≤ 4) (j : Nat) : (wayL L n lf ft)[9 + j]? = (lf ++ ft)[j]? := by
 unfold wayL
 rw [← List.append_assoc, List.getElem?_append_right (by simp [qee]; omega)]
 have : 9 + j - (pcs L ++ List.replicate (8 - 2 * L.length) (Value.int IntKind.u64 0)).length = j + 1 := by simp [qee]; omega
 rw [this]; rfl
theorem qec {w1 : World} {g t : Nat} {c0 c1 c2 c3 c4 c5 c6 c7 : Value} (hh : w1.heap[g]? = some (.cells #[c0, c1, c2, c3, c4, c5, c6, c7] t (0, 0))) :
  (w1.cell? ⟨g, 0, none⟩ = some c0 ∧ w1.cell? ⟨g, 1, none⟩ = some c1 ∧ w1.cell? ⟨g, 2, none⟩ = some c2 ∧ w1.cell? ⟨g, 3, none⟩ = some c3 ∧ w1.cell? ⟨g, 4, none⟩ = some c4 ∧ w1.cell? ⟨g, 5, none⟩ = some c5 ∧ w1.cell? ⟨g, 6, none⟩ = some c6 ∧ w1.cell? ⟨g, 7, none⟩ = some c7) ∧
  ∀ i, w1.frozen? ⟨g, i, none⟩ = false := by
 refine ⟨⟨?_, ?_, ?_, ?_, ?_, ?_, ?_, ?_⟩, fun i => frozen_of_row _ _ _ _ _ hh⟩
 all_goals (rw [cell_of_row _ _ _ _ _ _ hh]; rfl)
theorem segA_whole (cur : Array Value) (vs : List Value) (h : vs.length = cur.size) : segA cur 0 vs = vs.toArray := by
 unfold segA
 rw [List.take_zero, List.nil_append, Nat.zero_add, List.drop_eq_nil_of_le (by rw [Array.length_toList]; omega), List.append_nil]
theorem row8 {w1 : World} {g t : Nat} {c0 c1 c2 c3 c4 c5 c6 c7 : Value} (v0 v1 v2 v3 v4 v5 v6 v7 : Value) (hh : w1.heap[g]? = some (.cells #[c0, c1, c2, c3, c4, c5, c6, c7] t (0, 0))) :
  ((((((((w1.setCell ⟨g, 0, none⟩ v0).setCell ⟨g, 1, none⟩ v1).setCell ⟨g, 2, none⟩ v2).setCell ⟨g, 3, none⟩ v3).setCell ⟨g, 4, none⟩ v4).setCell ⟨g, 5, none⟩ v5).setCell ⟨g, 6, none⟩ v6).setCell ⟨g, 7, none⟩ v7).heap[g]? = some (.cells #[v0, v1, v2, v3, v4, v5, v6, v7] t (0, 0)) := by
 have h0 := heap_setCell_same _ g 0 _ _ v0 hh
 simp only [List.setIfInBounds_toArray, List.set_cons_zero] at h0
 have h1 := heap_setCell_same _ g 1 _ _ v1 h0
 simp only [List.setIfInBounds_toArray, List.set_cons_zero, List.set_cons_succ] at h1
 have h2 := heap_setCell_same _ g 2 _ _ v2 h1
 simp only [List.setIfInBounds_toArray, List.set_cons_zero, List.set_cons_succ] at h2
 have h3 := heap_setCell_same _ g 3 _ _ v3 h2
 simp only [List.setIfInBounds_toArray, List.set_cons_zero, List.set_cons_succ] at h3
 have h4 := heap_setCell_same _ g 4 _ _ v4 h3
 simp only [List.setIfInBounds_toArray, List.set_cons_zero, List.set_cons_succ] at h4
 have h5 := heap_setCell_same _ g 5 _ _ v5 h4
 simp only [List.setIfInBounds_toArray, List.set_cons_zero, List.set_cons_succ] at h5
 have h6 := heap_setCell_same _ g 6 _ _ v6 h5
 simp only [List.setIfInBounds_toArray, List.set_cons_zero, List.set_cons_succ] at h6
 have h7 := heap_setCell_same _ g 7 _ _ v7 h6
 simp only [List.setIfInBounds_toArray, List.set_cons_zero, List.set_cons_succ] at h7
 exact h7
theorem row2' {w1 : World} {g t : Nat} {c0 c1 : Value} (v0 v1 : Value) (hh : w1.heap[g]? = some (.cells #[c0, c1] t (0, 0))) :
  ((w1.setCell ⟨g, 0, none⟩ v0).setCell ⟨g, 1, none⟩ v1).heap[g]? = some (.cells #[v0, v1] t (0, 0)) := by
 have h0 := heap_setCell_same _ g 0 _ _ v0 hh
 simp only [List.setIfInBounds_toArray, List.set_cons_zero] at h0
 have h1 := heap_setCell_same _ g 1 _ _ v1 h0
 simp only [List.setIfInBounds_toArray, List.set_cons_zero, List.set_cons_succ] at h1
 exact h1
theorem other8 {w1 : World} {g g' : Nat} (hne : g' ≠ g) (v0 v1 v2 v3 v4 v5 v6 v7 : Value) :
  ((((((((w1.setCell ⟨g, 0, none⟩ v0).setCell ⟨g, 1, none⟩ v1).setCell ⟨g, 2, none⟩ v2).setCell ⟨g, 3, none⟩ v3).setCell ⟨g, 4, none⟩ v4).setCell ⟨g, 5, none⟩ v5).setCell ⟨g, 6, none⟩ v6).setCell ⟨g, 7, none⟩ v7).heap[g']? = w1.heap[g']? := by
 repeat rw [heap_setCell_other _ _ _ _ hne]
theorem below8 {w w1 : World} {B g : Nat} (hB : Below B w w1) (hg : B ≤ g) (v0 v1 v2 v3 v4 v5 v6 v7 : Value) :
  Below B w ((((((((w1.setCell ⟨g, 0, none⟩ v0).setCell ⟨g, 1, none⟩ v1).setCell ⟨g, 2, none⟩ v2).setCell ⟨g, 3, none⟩ v3).setCell ⟨g, 4, none⟩ v4).setCell ⟨g, 5, none⟩ v5).setCell ⟨g, 6, none⟩ v6).setCell ⟨g, 7, none⟩ v7) :=
 (((((((hB.setCell hg _).setCell hg _).setCell hg _).setCell hg _).setCell hg _).setCell hg _).setCell hg _).setCell hg _
theorem qbx (w : World) (o1 o2 : Obj) : Below w.heap.size w ((w.alloc o1).alloc o2) := qab (qac _ _) (qac _ _)
theorem from_any (l : Int) (tb va : Nat) (htl : tb < 18446744073709551616) {w : World} {X : Nat → Prop} {a S n : Nat} {f : Nat → Nat} (hM : qcw w X a S n f) (hF : Flds w) :
  Calls Tryz.prog 98 #[.pointer (some ⟨a, 0, none⟩), .int .i64 l, .int .u64 tb, .int .u64 va] w fun e w' => e = .returned (.tuple #[.agg (qeg (wk0 S f l tb va).2).toArray, .agg (qcj (wk0 S f l tb va).2).toArray]) ∧ Below w.heap.size w w' := by
 have hC := fun w1 (hm : qcw w1 X a S n f) (hf : Flds w1) => follow_any l tb va htl hm hf
 have hL4 := wk0_len S f l tb va
 generalize wk0 S f l tb va = r at *
 obtain ⟨ll, k, o, u, rr, x, s, at', hlf⟩ := leaf_form r.2
 obtain ⟨fk, fl, hft⟩ := fault_form r.2
 unfold wayR at hC
 rw [hlf, hft] at hC ⊢
 have hWl := wayL_len r.1 r.1.length [.int .i64 ll, .int .i64 k, .int .u64 o, .bool u, .bool rr, .bool x, .bool s, .int .i64 at'] [.int .i64 fk, .int .i64 fl] hL4 rfl rfl
 have hW1 := wayL_one r.1 r.1.length [.int .i64 ll, .int .i64 k, .int .u64 o, .bool u, .bool rr, .bool x, .bool s, .int .i64 at'] [.int .i64 fk, .int .i64 fl] (by simp [Value.oneCell']) (one_two _ _)
 have hWa := wayL_at r.1 r.1.length [.int .i64 ll, .int .i64 k, .int .u64 o, .bool u, .bool rr, .bool x, .bool s, .int .i64 at'] [.int .i64 fk, .int .i64 fl] hL4
 generalize (wayL r.1 r.1.length [.int .i64 ll, .int .i64 k, .int .u64 o, .bool u, .bool rr, .bool x, .bool s, .int .i64 at'] [.int .i64 fk, .int .i64 fl]) = W at *
 have hWs : W.toArray.size = 19 := (List.size_toArray ..).trans hWl
 have hWg : segA (wayL [] 0 zL zF).toArray 0 W.toArray.toList = W.toArray := segA_whole _ _ (by rw [List.toList_toArray, hWl]; rfl)
 have HWa := Hid.mk hWa
 clear hWa hlf hft
 go_enter Tryz.func98, Tryz.ntmps98
 go_wp2_with fail
 refine (hC _ (hM.below (qbx _ _ _)) (hF.later (qbx _ _ _))).mono ?_
 rintro e w1 ⟨rfl, hb⟩
 have hB : Below w.heap.size w w1 := qab (qbx _ _ _) hb
 have h8 : w1.heap[w.heap.size]? = some (.cells zL.toArray 112 (0, 0)) := qaa hb (heap_alloc2_old _ _ _)
 have h9 : w1.heap[w.heap.size + 1]? = some (.cells zF.toArray 50 (0, 0)) := qaa hb (heap_alloc2_new _ _ _)
 clear hb hC hM hF
 go_wp2_with (first
  | (refine qaj rfl 199 _ _ rfl w1.heap.size 0 _ W.toArray rfl rfl rfl 199 (wayL [] 0 zL zF).toArray (heap_alloc_new _ _) (by rw [hWs]; exact Nat.le_refl 19) (by rw [hWs]; exact qci) hW1 W.toArray hWg ?_
     intro w2 k10 ht
     have k8 := qae ht (qaa (qac _ _) h8) (Nat.ne_of_lt (qag h8))
     have k9 := qae ht (qaa (qac _ _) h9) (Nat.ne_of_lt (qag h9))
     have hB2 := qaf (qab hB (qac _ _)) ht hB.size
     have hs := qag h9
     clear ht h8 h9 hB)
  | fail)
 have q : ∀ j v, ([Value.int .i64 ll, .int .i64 k, .int .u64 o, .bool u, .bool rr, .bool x, .bool s, .int .i64 at', .int .i64 fk, .int .i64 fl] : List Value)[j]? = some v → w2.cell? ⟨w1.heap.size, 9 + j, none⟩ = some v := fun j v hv => by
  rw [cell_of_row _ _ _ _ _ _ k10, List.getElem?_toArray, HWa.out]; exact hv
 have q0 := q 0 _ rfl
 have q1 := q 1 _ rfl
 have q2 := q 2 _ rfl
 have q3 := q 3 _ rfl
 have q4 := q 4 _ rfl
 have q5 := q 5 _ rfl
 have q6 := q 6 _ rfl
 have q7 := q 7 _ rfl
 have q8 := q 8 _ rfl
 have q9 := q 9 _ rfl
 have k8' : w2.heap[w.heap.size]? = some (.cells #[.int .i64 0, .int .i64 0, .int .u64 0, .bool false, .bool false, .bool false, .bool false, .int .i64 0] 112 (0, 0)) := k8
 have k9' : w2.heap[w.heap.size + 1]? = some (.cells #[.int .i64 0, .int .i64 0] 50 (0, 0)) := k9
 obtain ⟨⟨a0, a1, a2, a3, a4, a5, a6, a7⟩, af⟩ := qec k8'
 obtain ⟨b0, b1, bf0, bf1⟩ := qbi k9'
 have K8 := Hid.mk k8'
 have K9 := Hid.mk k9'
 have HB := Hid.mk hB2
 clear q k8 k9 k8' k9' k10 hB2
 go_region
 all_goals go_wp2
 all_goals
  have hB9 := ((below8 HB.out (Nat.le_refl _) (.int .i64 ll) (.int .i64 k) (.int .u64 o) (.bool u) (.bool rr) (.bool x) (.bool s) (.int .i64 at')).setCell (p := ⟨w.heap.size + 1, 0, none⟩) (by simp) (.int .i64 fk)).setCell (p := ⟨w.heap.size + 1, 1, none⟩) (by simp) (.int .i64 fl)
  have r8 := row8 (.int .i64 ll) (.int .i64 k) (.int .u64 o) (.bool u) (.bool rr) (.bool x) (.bool s) (.int .i64 at') K8.out
  have r9 := (other8 (w1 := w2) (g := w.heap.size) (g' := w.heap.size + 1) (by omega) (.int .i64 ll) (.int .i64 k) (.int .u64 o) (.bool u) (.bool rr) (.bool x) (.bool s) (.int .i64 at')).trans K9.out
  generalize ((((((((w2.setCell ⟨w.heap.size, 0, none⟩ (.int .i64 ll)).setCell ⟨w.heap.size, 1, none⟩ (.int .i64 k)).setCell ⟨w.heap.size, 2, none⟩ (.int .u64 o)).setCell ⟨w.heap.size, 3, none⟩ (.bool u)).setCell ⟨w.heap.size, 4, none⟩ (.bool rr)).setCell ⟨w.heap.size, 5, none⟩ (.bool x)).setCell ⟨w.heap.size, 6, none⟩ (.bool s)).setCell ⟨w.heap.size, 7, none⟩ (.int .i64 at')) = w3 at *
  have r9' := row2' (.int .i64 fk) (.int .i64 fl) r9
  have r8' := (heap_setCell_other (w3.setCell ⟨w.heap.size + 1, 0, none⟩ (.int .i64 fk)) ⟨w.heap.size + 1, 1, none⟩ w.heap.size (.int .i64 fl) (by simp)).trans ((heap_setCell_other w3 ⟨w.heap.size + 1, 0, none⟩ w.heap.size (.int .i64 fk) (by simp)).trans r8)
  generalize ((w3.setCell ⟨w.heap.size + 1, 0, none⟩ (.int .i64 fk)).setCell ⟨w.heap.size + 1, 1, none⟩ (.int .i64 fl)) = w4 at *
  refine bodyPost_ret (v := .tuple #[.agg #[.int .i64 ll, .int .i64 k, .int .u64 o, .bool u, .bool rr, .bool x, .bool s, .int .i64 at'], .agg #[.int .i64 fk, .int .i64 fl]]) ?_ rfl ⟨rfl, hB9.drew⟩
  exact qas (p := 8) (q := 9) rfl _ w4.drew w.heap.size (w.heap.size + 1) 112 50 _ _ (0, 0) (0, 0) _ _ rfl r8' Tryz.underlying112 rfl qbd rfl r9' Tryz.underlying50 rfl qap
theorem walk_any (tb va : Nat) (htl : tb < 18446744073709551616) {w : World} {X : Nat → Prop} {a S n : Nat} {f : Nat → Nat} (hM : qcw w X a S n f) (hF : Flds w) :
  Calls Tryz.prog 80 #[.pointer (some ⟨a, 0, none⟩), .int .u64 tb, .int .u64 va] w fun e w' => e = .returned (.tuple #[.agg (qeg (wk0 S f 0 tb va).2).toArray, .agg (qcj (wk0 S f 0 tb va).2).toArray]) ∧ Below w.heap.size w w' := by
 have hC := fun w1 (hm : qcw w1 X a S n f) (hf : Flds w1) => from_any 0 tb va htl hm hf
 generalize (wk0 S f 0 tb va).2 = r at *
 have l1 := leafL_one r
 have f1 := faultL_one r
 have l2 : (qeg r).toArray.size = 8 := leafL_len r
 have f2 : (qcj r).toArray.size = 2 := faultL_len r
 have l3 : segA zL.toArray 0 (qeg r).toArray.toList = (qeg r).toArray := segA_whole _ _ (by rw [List.toList_toArray, leafL_len]; rfl)
 have f3 : segA zF.toArray 0 (qcj r).toArray.toList = (qcj r).toArray := segA_whole _ _ (by rw [List.toList_toArray, faultL_len]; rfl)
 generalize qeg r = LF at *
 generalize qcj r = FT at *
 go_enter Tryz.func80, Tryz.ntmps80
 go_wp2_with fail
 refine (hC _ (hM.below (qbx _ _ _)) (hF.later (qbx _ _ _))).mono ?_
 rintro e w1 ⟨rfl, hb⟩
 have hB : Below w.heap.size w w1 := qab (qbx _ _ _) hb
 have h8 : w1.heap[w.heap.size]? = some (.cells zL.toArray 112 (0, 0)) := qaa hb (heap_alloc2_old _ _ _)
 have h9 : w1.heap[w.heap.size + 1]? = some (.cells zF.toArray 50 (0, 0)) := qaa hb (heap_alloc2_new _ _ _)
 clear hb hC hM hF
 go_wp2_with (first
  | (refine qaj rfl 112 _ _ rfl w.heap.size 0 _ LF.toArray rfl rfl rfl 112 _ h8 (by rw [l2]; exact Nat.le_refl 8) (by rw [l2]; exact qbd) l1 LF.toArray l3 ?_
     intro w2 k8 ht
     have k9 := qae ht h9 (by omega)
     have hB2 := qaf hB ht (Nat.le_refl _)
     clear ht h8 h9 hB)
  | (refine qaj rfl 50 _ _ rfl (w.heap.size + 1) 0 _ FT.toArray rfl rfl rfl 50 _ k9 (by rw [f2]; exact Nat.le_refl 2) (by rw [f2]; exact qap) f1 FT.toArray f3 ?_
     intro w3 r9 ht
     have r8 := qae ht k8 (by omega)
     have hB3 := qaf hB2 ht (by omega)
     clear ht k8 k9 hB2))
 refine bodyPost_ret (v := .tuple #[.agg LF.toArray, .agg FT.toArray]) ?_ rfl ⟨rfl, hB3⟩
 exact qas (p := 6) (q := 7) rfl _ _ w.heap.size (w.heap.size + 1) 112 50 _ _ _ _ _ _ rfl r8 Tryz.underlying112 rfl (by rw [l2]; exact qbd) rfl r9 Tryz.underlying50 rfl (by rw [f2]; exact qap)
theorem out_any (ll k : Int) (o : Nat) (u rr x s : Bool) (at' : Int) (va : Nat) (hv : va < 18446744073709551616) (ho : o + offV va ll < 18446744073709551616) (w : World) :
  Calls Tryz.prog 39 #[.agg #[.int .i64 ll, .int .i64 k, .int .u64 o, .bool u, .bool rr, .bool x, .bool s, .int .i64 at'], .int .u64 va] w fun e w' => e = .returned (.int .u64 ((o + offV va ll : Nat) : Int)) ∧ Below w.heap.size w w' := by
 have hO := fun w => offset_any va ll hv w
 have hb : (o : Int) + (offV va ll : Int) < 18446744073709551616 := by omega
 generalize offV va ll = q at *
 go_enter Tryz.func39, Tryz.ntmps39
 go_wp2
 go_quiet ((refine Calls.quiet_of_same ((hO _).mono (fun e w1 hh => ⟨hh.1, hh.2.symm⟩))))
 go_wp2
 go_ret
 exact ⟨by rw [Int.natCast_add]; rfl, qab (qac _ _) (qco ⟨_, rfl⟩)⟩
theorem own_psl {T : TypeId} {w : World} {base : Nat} {v : Value} {L : WL} (h : w.ownsRow base T 2 v L.length (pcs L)) : Psl w (fun g => base ≤ g) v L := by
 rcases h.2 with ⟨rfl, hz⟩ | ⟨g, cap, cur, rfl, hbase, hb, r1, r2, r3, r4⟩
 ·exact Or.inl ⟨rfl, List.eq_nil_of_length_eq_zero hz⟩
 ·refine Or.inr ⟨g, cap, rfl, hbase, (Array.getElem?_eq_some_iff.1 hb).1, fun j hj => ?_⟩
  have hg : ∀ i, i < L.length * 2 → w.cell? ⟨g, i, none⟩ = (pcs L)[i]? := fun i hi => by
   have h5 : (cur.toList.take (L.length * 2))[i]? = (pcs L)[i]? := by rw [r4]
   rw [List.getElem?_take_of_lt (by omega)] at h5
   simp only [World.cell?, hb]
   simp only [Option.isSome_none, Bool.false_eq_true, if_false]
   rw [← Array.getElem?_toList, h5]
  exact ⟨(hg _ (by omega)).trans (pcs_get L hj).1, (hg _ (by omega)).trans (pcs_get L hj).2⟩
theorem info_st : (Tryz.prog.info? 46).map (fun i => (i.zero, i.size, i.bytes)) = some (some (.agg #[.int .u64 0, .int .u64 0]), 2, 16) := by kernel_rfl
theorem wpList_appS (w : World) {ops : Array Oper} {rest : List Oper} {o : Oper} {a : Act} {Q : Exit → Act → World → Prop} (hg : o.guard = none) (s x : Operand) (hop : o.op = .call { callee := .builtin .append, args := #[s, x], argTypes := #[22, 22] })
  (base : Nat) (v : Value) (hs : a.eval s = v) (hown : w.ownsRow base 46 2 v 0 []) (L : WL) (bb cap0 : Nat) (hx : a.eval x = .slice (some ⟨bb, 0, none⟩) L.length cap0) (hc : ∀ j u, (pcs L)[j]? = some u → w.cell? ⟨bb, j, none⟩ = some u) (hp : 0 < L.length) (hlen : L.length < 100000000) (hbase : base ≤ w.heap.size)
  (h : ∀ g cap w', w'.ownsRow base 46 2 (.slice (some ⟨g, 0, none⟩) L.length cap) L.length (pcs L) → w.grownBy w' v.ownBlock → wpList Tryz.prog ops Q rest (a.put o.dst (.slice (some ⟨g, 0, none⟩) L.length cap)) w') :
  wpList Tryz.prog ops Q (o :: rest) a w := by
 obtain ⟨i0, hi, hz0, hz1, hz2⟩ := info_parts info_st
 refine wpList_append_lies w hg s x 22 hop base 46 i0 _ 2 16 Tryz.underlying22 hi hz0 hz1 hz2 rfl (by decide) v 0 [] hs hown ⟨bb, 0, none⟩ L.length cap0 (pcs L) hx (by rw [qee]; omega) (fun j u hu => by rw [Addr.add_mid, Nat.zero_add]; exact hc j u hu) (pcs_one L) hp (by unfold maxLen; omega) (by omega) hbase _ rfl ?_
 intro g cap w' hown' hgrow _ _
 rw [Nat.zero_add] at hown' ⊢
 exact h g cap w' hown' hgrow
theorem clone_c {w : World} (L : WL) (b cap : Nat) (hc : ∀ j u, (pcs L)[j]? = some u → w.cell? ⟨b, j, none⟩ = some u) (hl : L.length ≤ 4) :
  Calls Tryz.prog 117 #[.slice (some ⟨b, 0, none⟩) L.length cap] w fun e w' => ∃ v, e = .returned v ∧ Psl w' (fun g => w.heap.size ≤ g) v L ∧ Below w.heap.size w w' := by
 have HC := Hid.mk hc
 have hen : ∀ (w : World) (n : Nat), (binOp .eql 22 (.slice (some ⟨b, 0, none⟩) n cap) (.slice none 0 0)).run Tryz.prog w = .ok (.bool false) w := fun _ _ => rfl
 have HP : Hid (L.length = 0 → L = []) := fun h => List.length_eq_zero_iff.1 h
 generalize hN : L.length = N at *
 have HN := Hid.mk hN
 clear hc hN
 by_cases h0 : N = 0
 ·subst h0
  go_enter Tryz.func117, Tryz.ntmps117
  go_wp2
  go_ret
  obtain rfl : L = [] := HP.out (by trivial)
  exact ⟨_, rfl, Or.inr ⟨w.heap.size, 0, rfl, Nat.le_refl _, by simp, fun j hj => by cases hj⟩, qac _ _⟩
 ·have hN := HN.out
  subst hN
  go_enter Tryz.func117, Tryz.ntmps117
  go_wp2_with (at_builtin; refine wpList_appS _ rfl _ _ rfl w.heap.size _ rfl ⟨rfl, Or.inr ⟨w.heap.size, 0, #[], rfl, Nat.le_refl _, heap_alloc_new _ _, Nat.le_refl _, Nat.zero_le _, rfl, rfl⟩⟩ L b cap rfl (fun j u hu => cell_later (qac _ _) (HC.out j u hu)) (by omega) (by omega) (by simp) ?_; intro g cap' w2 hown hgr)
  go_ret
  refine ⟨_, rfl, own_psl hown, ?_⟩
  exact (qac w _).grown hgr (by simp) (fun q hq => by cases hq; exact Nat.le_refl _)
theorem trace_any (l : Int) (tb va : Nat) (htl : tb < 18446744073709551616) {w : World} {X : Nat → Prop} {a S n : Nat} {f : Nat → Nat} (hM : qcw w X a S n f) (hF : Flds w) :
  Calls Tryz.prog 82 #[.pointer (some ⟨a, 0, none⟩), .int .i64 l, .int .u64 tb, .int .u64 va] w fun e w' => ∃ v, e = .returned v ∧ Psl w' (fun g => w.heap.size ≤ g) v (wk0 S f l tb va).1 ∧ Below w.heap.size w w' := by
 have hC := fun w1 (hm : qcw w1 X a S n f) (hf : Flds w1) => follow_any l tb va htl hm hf
 have hL4 := wk0_len S f l tb va
 generalize wk0 S f l tb va = r at *
 unfold wayR at hC
 have hWl := wayL_len r.1 r.1.length (qeg r.2) (qcj r.2) hL4 (leafL_len _) (faultL_len _)
 have hW1 := wayL_one r.1 r.1.length (qeg r.2) (qcj r.2) (fun v hv => (Array.all_eq_true_iff_forall_mem.1 (leafL_one r.2)) v (by simpa using hv)) (fun v hv => (Array.all_eq_true_iff_forall_mem.1 (faultL_one r.2)) v (by simpa using hv))
 have hWn := wayL_n r.1 r.1.length (qeg r.2) (qcj r.2) hL4
 have hWp : ∀ j u, (pcs r.1)[j]? = some u → (wayL r.1 r.1.length (qeg r.2) (qcj r.2))[j]? = some u := fun j u hu => by
  unfold wayL
  rw [List.getElem?_append_left (List.getElem?_eq_some_iff.1 hu).1]; exact hu
 generalize wayL r.1 r.1.length (qeg r.2) (qcj r.2) = W at *
 have hWs : W.toArray.size = 19 := (List.size_toArray ..).trans hWl
 have hWg : segA (wayL [] 0 zL zF).toArray 0 W.toArray.toList = W.toArray := segA_whole _ _ (by rw [List.toList_toArray, hWl]; rfl)
 have HWp := Hid.mk hWp
 obtain ⟨L, r2⟩ := r
 simp only at *
 clear hWp
 have hN4 : (L.length : Int) ≤ 4 := by omega
 go_enter Tryz.func82, Tryz.ntmps82
 go_wp2_with fail
 refine (hC _ hM hF).mono ?_
 rintro e w1 ⟨rfl, hB⟩
 clear hC hM hF
 go_wp2_with (first
  | (refine qaj rfl 199 _ _ rfl w1.heap.size 0 _ W.toArray rfl rfl rfl 199 (wayL [] 0 zL zF).toArray (heap_alloc_new _ _) (by rw [hWs]; exact Nat.le_refl 19) (by rw [hWs]; exact qci) hW1 W.toArray hWg ?_
     intro w2 k10 ht
     have hB2 := qaf (qab hB (qac _ _)) ht hB.size
     have c8 := (cell_of_row w2 w1.heap.size 8 _ _ _ k10).trans ((List.getElem?_toArray ..).trans hWn)
     clear ht hB)
  | fail)
 refine (clone_c L w1.heap.size _ (fun j u hu => by rw [cell_of_row _ _ _ _ _ _ k10, List.getElem?_toArray]; exact HWp.out j u hu) (by omega)).mono ?_
 rintro e w3 ⟨v, rfl, hp, hb⟩
 go_wp2
 go_ret
 exact ⟨_, rfl, hp.mono (fun g hg => Nat.le_trans hB2.size hg), qab hB2 hb⟩
end Go.Proofs.YtfdbdeckohaneaaGreatDoor
