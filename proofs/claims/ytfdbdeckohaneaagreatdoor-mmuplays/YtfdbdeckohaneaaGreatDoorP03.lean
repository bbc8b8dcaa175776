/- P03 -/
import Derived.Test.YtfdbdeckohaneaaGreatDoorP02
import Derived.Deep.RegionWith
import Derived.Laws.ResultCell
set_option maxHeartbeats 16000000
set_option maxRecDepth 100000
namespace Go.Proofs.YtfdbdeckohaneaaGreatDoor
open Go.RowKit
theorem qbu (a k i : Nat) : (a * 2 ^ k).testBit i = (decide (k ≤ i) && a.testBit (i - k)) := by
 rw [Nat.mul_comm, Nat.testBit_two_pow_mul]
theorem qdz {l n : Nat} (h : qbj (l : Int) (n : Int) = true) : l < 64 ∧ 1 ≤ n ∧ l + n ≤ 64 := by
 have := right_of h
 omega
theorem qdi {l n : Nat} (h : qbj (l : Int) (n : Int) = true) (i : Nat) : (qcn l n).testBit i = decide (l ≤ i ∧ i < l + n) := by
 have hr := qdz h
 rw [qcn, if_pos h, Int.toNat_natCast, qbu, ones_testBit, Bool.eq_iff_iff]
 simp
 omega
theorem getV_lt (l n : Int) (x : Nat) : getV l n x < 18446744073709551616 := by
 unfold getV
 by_cases h : qbj l n = true
 ·rw [if_pos h]; exact Nat.lt_of_le_of_lt Nat.and_le_right (ones_lt n)
 ·rw [if_neg h]; omega
theorem getV_testBit {l n : Nat} (h : qbj (l : Int) (n : Int) = true) (x i : Nat) : (getV l n x).testBit i = (decide (i < n) && x.testBit (l + i)) := by
 have hr := qdz h
 rw [getV, if_pos h, Int.toNat_natCast, Nat.testBit_and, Nat.testBit_div_two_pow, ones_testBit, Bool.and_comm]
 congr 1
 ·rw [decide_eq_decide]; omega
 ·rw [Nat.add_comm]
theorem getV_eq {l n : Nat} (h : qbj (l : Int) (n : Int) = true) (x : Nat) : wv (fun i => decide (i < n) && x.testBit (l + i)) 0 64 = getV l n x :=
 wv_eq _ _ (getV_lt _ _ _) fun i _ => (getV_testBit h x i).symm
theorem putV_testBit {l n : Nat} (h : qbj (l : Int) (n : Int) = true) (x v i : Nat) (hv : v < 2 ^ n) : (andn x (qcn l n) ||| v * 2 ^ (l : Int).toNat).testBit i = (if l ≤ i ∧ i < l + n then v.testBit (i - l) else (decide (i < 64) && x.testBit i)) := by
 have hr := qdz h
 rw [Int.toNat_natCast, Nat.testBit_or, qek _ _ _ (qfb _ _), qdi h, qbu]
 by_cases c : l ≤ i ∧ i < l + n
 ·rw [if_pos c, decide_eq_true c, decide_eq_true c.1]; simp
 ·rw [if_neg c, decide_eq_false c]
  by_cases c1 : l ≤ i
  ·have hz : v.testBit (i - l) = false := Nat.testBit_lt_two_pow (Nat.lt_of_lt_of_le hv (Nat.pow_le_pow_right (by omega) (by omega)))
   rw [hz]; cases x.testBit i <;> simp
  ·rw [decide_eq_false c1]; cases x.testBit i <;> simp
theorem putX_eq {l n : Nat} (h : qbj (l : Int) (n : Int) = true) {v : Nat} (hv : v < 2 ^ n) (x : Nat) : putX l n x v = andn x (qcn l n) ||| v * 2 ^ (l : Int).toNat := by
 have hr := qdz h
 unfold putX
 rw [if_neg (by rw [h]; decide), if_neg]
 rw [ones_eq (by omega) (by omega), Int.toNat_natCast]; omega
theorem putX_lt {l n : Nat} (h : qbj (l : Int) (n : Int) = true) {v : Nat} (hv : v < 2 ^ n) {x : Nat} (hx : x < 18446744073709551616) : putX l n x v < 18446744073709551616 := by
 have hr := qdz h
 rw [putX_eq h hv]
 exact or_lt _ _ (Nat.lt_of_le_of_lt (andn_le _ _) hx) (by rw [Int.toNat_natCast]; exact shl_lt hv (by omega))
theorem downV_testBit (x : Nat) (n : Int) (i : Nat) : (downV x n).testBit i = (x.testBit i && (decide (i < 64) && !decide (i < 64 ∧ (i : Int) < n))) := by
 rw [downV, qek _ _ _ (ones_lt n), ones_testBit]
theorem downV_lt (x : Nat) (n : Int) (hx : x < 18446744073709551616) : downV x n < 18446744073709551616 := Nat.lt_of_le_of_lt (andn_le _ _) hx
theorem refDown_eq (x : Nat) (n m : Int) (hx : x < 18446744073709551616) (hm : m = max n 0) : wv (fun i => decide (m ≤ (i : Int)) && x.testBit i) 0 64 = downV x n := by
 apply wv_eq _ _ (downV_lt x n hx)
 intro i hi
 have e : decide (m ≤ (i : Int)) = !decide (i < 64 ∧ (i : Int) < n) := by
  by_cases c : m ≤ (i : Int)
  ·rw [decide_eq_true c, decide_eq_false (by omega)]; rfl
  ·rw [decide_eq_false c, decide_eq_true (by omega)]; rfl
 rw [downV_testBit, e, decide_eq_true hi, Bool.true_and, Bool.and_comm]
theorem down_mid (x k : Nat) (h2 : k < 64) (hx : x < 18446744073709551616) : downV x (k : Int) = x / 2 ^ k * 2 ^ k := by
 apply Nat.eq_of_testBit_eq
 intro i
 rw [downV_testBit, qbu, Nat.testBit_div_two_pow]
 by_cases hi : k ≤ i
 ·have e : (i - k) + k = i := by omega
  rw [e, decide_eq_true hi]
  by_cases hi2 : i < 64
  ·have : ¬ (i < 64 ∧ (i : Int) < (k : Int)) := by omega
   rw [decide_eq_true hi2, decide_eq_false this]; simp
  ·rw [high_bit x i hx (by omega)]; simp
 ·have : (i < 64 ∧ (i : Int) < (k : Int)) := by omega
  rw [decide_eq_true this, decide_eq_false hi]; simp
theorem and_mid (x k : Nat) (h1 : 1 ≤ k) (h2 : k < 64) : (x &&& ones (k : Int)) = x % 2 ^ k := by
 rw [ones_eq (by omega) (by omega), Int.toNat_natCast, Nat.and_two_pow_sub_one_eq_mod]
structure Flds (w : World) : Prop where
 o0 : w.cell? ⟨0, 0, none⟩ = some (.int .i64 12)
 o1 : w.cell? ⟨0, 1, none⟩ = some (.int .i64 36)
 a0 : w.cell? ⟨2, 0, none⟩ = some (.int .i64 2)
 a1 : w.cell? ⟨2, 1, none⟩ = some (.int .i64 3)
theorem Flds.later {w w' : World} (h : Flds w) (hb : Below w.heap.size w w') : Flds w' :=
 ⟨cell_later hb h.o0, cell_later hb h.o1, by first | exact cell_later hb h.a0 | trivial, by first | exact cell_later hb h.a1 | trivial⟩
theorem qac (w : World) (o : Obj) : Below w.heap.size w (w.alloc o) := (Below.refl _ _).alloc (Nat.le_refl _) _
theorem Flds.alloc {w : World} (h : Flds w) (o : Obj) : Flds (w.alloc o) := h.later (qac w o)
def isLv (l : Int) : Bool := decide (0 ≤ l ∧ l ≤ 3)
theorem qdf {l : Int} (h : isLv l = true) : 0 ≤ l ∧ l ≤ 3 := of_decide_eq_true h
theorem qbg (l : Int) (w : World) :
  Calls Tryz.prog 118 #[.int .i64 l] w fun e w' => e = .returned (.bool (isLv l)) ∧ w = w' := by
 by_cases h1 : 0 ≤ l
 ·have d1 : decide (0 ≤ l) = true := decide_eq_true h1
  have HE : Hid (isLv l = decide (l ≤ 3)) := by show isLv l = _; unfold isLv; rw [decide_eq_decide]; omega
  go_enter Tryz.func118, Tryz.ntmps118
  go_wp2
  go_ret
  exact ⟨by rw [HE.out]; rfl, rfl⟩
 ·have d1 : decide (0 ≤ l) = false := decide_eq_false h1
  have HE : Hid (isLv l = false) := by show isLv l = _; unfold isLv; rw [decide_eq_false_iff_not]; omega
  go_enter Tryz.func118, Tryz.ntmps118
  go_wp2
  go_ret
  exact ⟨by rw [HE.out]; rfl, rfl⟩
def lowL (l : Int) : Int := if isLv l = true then 39 - 9 * l else 0
theorem zP03x03 {Z : Prop} (z : Z := by
 go_enter Tryz.func115, Tryz.ntmps115
 go_wp2_with (go_at_call 118; refine (qbg _ _).mono ?_; rintro e w' ⟨rfl, rfl⟩; rw [hl])
 go_ret
 exact ⟨by rw [HE.out]; rfl, rfl⟩) : Z := z
theorem qcd (l : Int) (w : World) :
  Calls Tryz.prog 115 #[.int .i64 l] w fun e w' => e = .returned (.int .i64 (lowL l)) ∧ w = w' := by
 cases hl : isLv l
 ·have HE : Hid (lowL l = 0) := by show lowL l = _; unfold lowL; rw [hl]; rfl
  exact zP03x03
 ·have hb := qdf hl
  obtain ⟨h0, h3⟩ := hb
  have HE : Hid (lowL l = 12 + 9 * (3 - l)) := by show lowL l = _; unfold lowL; rw [hl, if_pos rfl]; omega
  exact zP03x03
def qct (x : Nat) (n : Int) : Bool := (qdk x [(12, 36)] == 0) && qaq x n
theorem isOut_any (x : Nat) (n : Int) (hx : x < 18446744073709551616) (w : World) (hF : Flds w) :
  Calls Tryz.prog 112 #[.int .u64 x, .int .i64 n] w fun e w' => e = .returned (.bool (qct x n)) ∧ Below w.heap.size w w' := by
 obtain ⟨o0, o1, _, _⟩ := hF
 by_cases h0 : qdk x [(12, 36)] = 0
 ·have HE : Hid (qct x n = qaq x n) := by show qct x n = _; unfold qct; rw [h0]; rfl
  go_enter Tryz.func112, Tryz.ntmps112
  go_wp2_with fail
  refine (rest_some x hx [(12, 36)] _ _ (by decide) _ (fun i hi => ?_) (fun i hi => ?_)).mono ?_
  ·obtain rfl : i = 0 := by simp at hi; exact hi
   simp
  ·obtain rfl : i = 0 := by simp at hi; exact hi
   simp
  rintro e w1 ⟨rfl, hb⟩
  rw [h0]
  go_wp2_with (go_at_call 51; refine (qdt _ _ hx _).mono ?_; rintro e w' ⟨rfl, rfl⟩)
  go_ret
  exact ⟨by rw [HE.out]; rfl, qab (qac _ _) hb⟩
 ·have HE : Hid (qct x n = false) := by show qct x n = _; unfold qct; simp [h0]
  have hne : ((qdk x [(12, 36)] : Int) == 0) = false := by rw [beq_eq_false_iff_ne]; omega
  go_enter Tryz.func112, Tryz.ntmps112
  go_wp2_with fail
  refine (rest_some x hx [(12, 36)] _ _ (by decide) _ (fun i hi => ?_) (fun i hi => ?_)).mono ?_
  ·obtain rfl : i = 0 := by simp at hi; exact hi
   simp
  ·obtain rfl : i = 0 := by simp at hi; exact hi
   simp
  rintro e w1 ⟨rfl, hb⟩
  generalize qdk x [(12, 36)] = y at *
  go_wp2
  go_ret
  exact ⟨by rw [HE.out]; rfl, qab (qac _ _) hb⟩
theorem qbf {W : World} {o : Obj} {a : Addr} {v : Value} (h : W.cell? a = some v) : (W.alloc o).cell? a = some v :=
 cell_later (qac W o) h
theorem Flds.drew {w : World} (h : Flds w) : Flds w.drew := h.later (Below.refl _ _).drew
def qeo (l : Int) (o : Nat) (a : Int) : Bool := qct o (lowL l) && decide (0 ≤ a ∧ a ≤ 7)
theorem rightLeaf_any (l k : Int) (o : Nat) (u r x s : Bool) (a : Int) (ho : o < 18446744073709551616) (w : World) (hF : Flds w) :
  Calls Tryz.prog 149 #[.agg #[.int .i64 k, .int .u64 o, .bool u, .bool r, .bool x, .bool s, .int .i64 a], .int .i64 l] w fun e w' => e = .returned (.bool (qeo l o a)) ∧ Below w.heap.size w w' := by
 have hF1 := hF.alloc (.cells #[.int .i64 k, .int .u64 o, .bool u, .bool r, .bool x, .bool s, .int .i64 a] 89)
 have hB1 := (qac w (.cells #[.int .i64 k, .int .u64 o, .bool u, .bool r, .bool x, .bool s, .int .i64 a] 89)).drew
 cases h1 : qct o (lowL l)
 ·have HE : Hid (qeo l o a = false) := by show qeo l o a = _; unfold qeo; rw [h1]; rfl
  go_enter Tryz.func149, Tryz.ntmps149
  go_wp2
  first | (go_region_with (first
   | (go_at_call 115; refine (qcd _ _).mono ?_; rintro e w' ⟨rfl, rfl⟩)
   | (go_at_call 112; refine (isOut_any _ _ ho _ hF1.drew).mono ?_; rintro e w' ⟨rfl, hbm⟩; rw [h1]))) | fail
  all_goals go_wp2
  all_goals go_ret
  all_goals exact ⟨by rw [HE.out]; rfl, qab hB1 hbm⟩
 by_cases h2 : 0 ≤ a
 ·have d2 : decide (0 ≤ a) = true := decide_eq_true h2
  have HE : Hid (qeo l o a = decide (a ≤ 7)) := by show qeo l o a = _; unfold qeo; rw [h1, Bool.true_and, decide_eq_decide]; omega
  go_enter Tryz.func149, Tryz.ntmps149
  go_wp2
  go_region_held3 (fun w' => w'.cell? ⟨w.heap.size, 1, none⟩ = some (.int .u64 o) ∧ w'.cell? ⟨w.heap.size, 6, none⟩ = some (.int .i64 a) ∧ Flds w' ∧ Below w.heap.size w w')
   ((go_split_ands; refine ⟨?_, ?_, ?_, ?_⟩ <;> first | (assumption; done) | exact cell_later hbm (by assumption) | exact Flds.later (by assumption) hbm | exact hF1.drew | exact qab (by assumption) hbm | (go_keep; done)))
   (first
    | (go_at_call 115; refine (qcd _ _).mono ?_; rintro e w' ⟨rfl, rfl⟩)
    | (go_at_call 112; refine (isOut_any _ _ ho _ (by go_split_ands; assumption)).mono ?_; rintro e w' ⟨rfl, hbm⟩; rw [h1]))
  all_goals go_wp2
  all_goals go_ret
  all_goals exact ⟨by rw [HE.out]; rfl, by go_split_ands; assumption⟩
 ·have d2 : decide (0 ≤ a) = false := decide_eq_false h2
  have HE : Hid (qeo l o a = false) := by show qeo l o a = _; unfold qeo; rw [h1, Bool.true_and, decide_eq_false_iff_not]; omega
  go_enter Tryz.func149, Tryz.ntmps149
  go_wp2
  first | (go_region_with (first
   | (go_at_call 115; refine (qcd _ _).mono ?_; rintro e w' ⟨rfl, rfl⟩)
   | (go_at_call 112; refine (isOut_any _ _ ho _ hF1.drew).mono ?_; rintro e w' ⟨rfl, hbm⟩; rw [h1]; have c6 : w'.cell? ⟨w.heap.size, 6, none⟩ = some (.int .i64 a) := cell_later hbm (by go_keep)))) | fail
  all_goals go_wp2
  all_goals go_ret
  all_goals exact ⟨by rw [HE.out]; rfl, qab hB1 hbm⟩
def bareB (u r x s : Bool) (a : Int) : Bool := !u && !r && !x && !s && a == 0
def qbr (l k : Int) (o : Nat) (u r x s : Bool) (a : Int) : Bool :=
 if isLv l = false then false
 else if k = 0 then bareB u r x s a && o == 0
 else if k = 1 then decide (l < 3) && bareB u r x s a && qct o 12
 else if k = 2 then decide (0 < l ∧ l < 3) && qeo l o a
 else if k = 3 then decide (l = 3) && qeo l o a
 else false
theorem right0 (l : Int) (o : Nat) (u r x s : Bool) (a : Int) (w : World) (hl : isLv l = true) :
  Calls Tryz.prog 139 #[.agg #[.int .i64 0, .int .u64 o, .bool u, .bool r, .bool x, .bool s, .int .i64 a], .int .i64 l] w fun e w' => e = .returned (.bool (bareB u r x s a && o == 0)) ∧ Below w.heap.size w w' := by
 go_enter Tryz.func139, Tryz.ntmps139
 go_wp2_with (go_at_call 118; refine (qbg _ _).mono ?_; rintro e w' ⟨rfl, rfl⟩; rw [hl])
 all_goals go_ret
 all_goals refine ⟨?_, qac _ _⟩
 all_goals (simp_all [bareB]; done)
theorem right1 (l : Int) (o : Nat) (u r x s : Bool) (a : Int) (ho : o < 18446744073709551616) (w : World) (hF : Flds w) (hl : isLv l = true) :
  Calls Tryz.prog 139 #[.agg #[.int .i64 1, .int .u64 o, .bool u, .bool r, .bool x, .bool s, .int .i64 a], .int .i64 l] w fun e w' => e = .returned (.bool (decide (l < 3) && bareB u r x s a && qct o 12)) ∧ Below w.heap.size w w' := by
 by_cases h3 : l < 3
 ·have d3 : decide (l < 3) = true := decide_eq_true h3
  go_enter Tryz.func139, Tryz.ntmps139
  go_wp2_with (first
   | (go_at_call 118; refine (qbg _ _).mono ?_; rintro e w' ⟨rfl, rfl⟩; rw [hl])
   | (go_at_call 112; refine (isOut_any _ _ ho _ (hF.alloc _)).mono ?_; rintro e w' ⟨rfl, hbm⟩))
  all_goals go_ret
  all_goals first | refine ⟨?_, qac _ _⟩ | refine ⟨?_, qab (qac _ _) hbm⟩
  all_goals (simp_all [bareB]; done)
 ·have d3 : decide (l < 3) = false := decide_eq_false h3
  go_enter Tryz.func139, Tryz.ntmps139
  go_wp2_with (go_at_call 118; refine (qbg _ _).mono ?_; rintro e w' ⟨rfl, rfl⟩; rw [hl])
  go_ret
  exact ⟨by rw [d3]; rfl, qac _ _⟩
theorem zP03x02 {Z : Prop} (z : Z := by
 go_enter Tryz.func139, Tryz.ntmps139
 go_wp2_with (first
  | (go_at_call 118; refine (qbg _ _).mono ?_; rintro e w' ⟨rfl, rfl⟩; rw [hl])
  | (go_at_call 149; refine (rightLeaf_any _ _ _ _ _ _ _ _ ho _ (hF.alloc _)).mono ?_; rintro e w' ⟨rfl, hbm⟩))
 go_ret
 exact ⟨by rw [HE.out]; rfl, qab (qac _ _) hbm⟩) : Z := z
theorem zP03x04 {Z : Prop} (z : Z := by
 go_enter Tryz.func139, Tryz.ntmps139
 go_wp2_with (go_at_call 118; refine (qbg _ _).mono ?_; rintro e w' ⟨rfl, rfl⟩; rw [hl])
 go_ret
 exact ⟨by rw [HE.out]; rfl, qac _ _⟩) : Z := z
theorem right2 (l : Int) (o : Nat) (u r x s : Bool) (a : Int) (ho : o < 18446744073709551616) (w : World) (hF : Flds w) (hl : isLv l = true) :
  Calls Tryz.prog 139 #[.agg #[.int .i64 2, .int .u64 o, .bool u, .bool r, .bool x, .bool s, .int .i64 a], .int .i64 l] w fun e w' => e = .returned (.bool (decide (0 < l ∧ l < 3) && qeo l o a)) ∧ Below w.heap.size w w' := by
 by_cases h0 : 0 < l
 ·have d0 : decide (0 < l) = true := decide_eq_true h0
  by_cases h3 : l < 3
  ·have d3 : decide (l < 3) = true := decide_eq_true h3
   have HE : Hid (decide (0 < l ∧ l < 3) = true) := decide_eq_true ⟨h0, h3⟩
   exact zP03x02
  ·have d3 : decide (l < 3) = false := decide_eq_false h3
   have HE : Hid (decide (0 < l ∧ l < 3) = false) := decide_eq_false fun h => h3 h.2
   exact zP03x04
 ·have d0 : decide (0 < l) = false := decide_eq_false h0
  have HE : Hid (decide (0 < l ∧ l < 3) = false) := decide_eq_false fun h => h0 h.1
  exact zP03x04
theorem right3 (l : Int) (o : Nat) (u r x s : Bool) (a : Int) (ho : o < 18446744073709551616) (w : World) (hF : Flds w) (hl : isLv l = true) :
  Calls Tryz.prog 139 #[.agg #[.int .i64 3, .int .u64 o, .bool u, .bool r, .bool x, .bool s, .int .i64 a], .int .i64 l] w fun e w' => e = .returned (.bool (decide (l = 3) && qeo l o a)) ∧ Below w.heap.size w w' := by
 by_cases h3 : l = 3
 ·have HE : Hid (decide (l = 3) = true) := decide_eq_true h3
  subst h3
  exact zP03x02
 ·have HE : Hid (decide (l = 3) = false) := decide_eq_false h3
  have d3 : (l == 3) = false := by rw [beq_eq_false_iff_ne]; exact h3
  exact zP03x04
theorem right_d (l k : Int) (o : Nat) (u r x s : Bool) (a : Int) (ho : o < 18446744073709551616) (w : World) (hF : Flds w) :
  Calls Tryz.prog 139 #[.agg #[.int .i64 k, .int .u64 o, .bool u, .bool r, .bool x, .bool s, .int .i64 a], .int .i64 l] w fun e w' => e = .returned (.bool (qbr l k o u r x s a)) ∧ Below w.heap.size w w' := by
 cases hl : isLv l
 ·have HE : Hid (qbr l k o u r x s a = false) := by show qbr l k o u r x s a = _; unfold qbr; rw [if_pos hl]
  exact zP03x04
 have hlf : ¬ isLv l = false := by rw [hl]; decide
 by_cases h0 : k = 0
 ·subst h0; rw [qbr, if_neg hlf, if_pos rfl]; exact right0 l o u r x s a w hl
 by_cases h1 : k = 1
 ·subst h1; rw [qbr, if_neg hlf, if_neg (by decide), if_pos rfl]; exact right1 l o u r x s a ho w hF hl
 by_cases h2 : k = 2
 ·subst h2; rw [qbr, if_neg hlf, if_neg (by decide), if_neg (by decide), if_pos rfl]; exact right2 l o u r x s a ho w hF hl
 by_cases h3 : k = 3
 ·subst h3; rw [qbr, if_neg hlf, if_neg (by decide), if_neg (by decide), if_neg (by decide), if_pos rfl]; exact right3 l o u r x s a ho w hF hl
 have HE : Hid (qbr l k o u r x s a = false) := by show qbr l k o u r x s a = _; unfold qbr; rw [if_neg hlf, if_neg h0, if_neg h1, if_neg h2, if_neg h3]
 have d0 : (k == 0) = false := by rw [beq_eq_false_iff_ne]; exact h0
 have d1 : (k == 1) = false := by rw [beq_eq_false_iff_ne]; exact h1
 have d2 : (k == 2) = false := by rw [beq_eq_false_iff_ne]; exact h2
 have d3 : (k == 3) = false := by rw [beq_eq_false_iff_ne]; exact h3
 clear h0 h1 h2 h3
 exact zP03x04
def orN (c : Bool) (y k : Nat) : Nat := if c = true then y ||| k else y
theorem orN_lt (c : Bool) {y k : Nat} (hy : y < 18446744073709551616) (hk : k < 18446744073709551616) : orN c y k < 18446744073709551616 := by
 unfold orN; cases c
 ·exact hy
 ·exact or_lt _ _ hy hk
theorem or_cast {y k : Nat} (hy : y < 18446744073709551616) (hk : k < 18446744073709551616) : bits BinOp.or IntKind.u64 (y : Int) (k : Int) = ((y ||| k : Nat) : Int) := bits_or_u64_nat _ _ hy hk
def orI (c : Bool) (y k : Int) : Int := if c = true then bits BinOp.or IntKind.u64 y k else y
theorem orN_cast (c : Bool) {y k : Nat} (hy : y < 18446744073709551616) (hk : k < 18446744073709551616) : ((orN c y k : Nat) : Int) = orI c (y : Int) (k : Int) := by
 cases c
 ·rfl
 ·exact (or_cast hy hk).symm
def leafP (o a : Nat) : Nat := putX 2 3 (o ||| 9007199254743808) a
def qem (o : Nat) (u r x s : Bool) (a : Nat) : Nat := orN (!x) (orN s (orN (!r) (orN u (leafP o a) 64) 128) 1024) 18014398509481984
theorem right23 : qbj ((2 : Nat) : Int) ((3 : Nat) : Int) = true := by decide
theorem leafP_lt {o a : Nat} (ho : o < 18446744073709551616) (ha : a ≤ 7) : leafP o a < 18446744073709551616 :=
 putX_lt right23 (v := a) (by omega) (or_lt _ _ ho (by omega))
theorem leafWord_any (k : Int) (o : Nat) (u r x s : Bool) (a : Nat) (ho : o < 18446744073709551616) (ha : a ≤ 7) (w : World) (hF : Flds w) :
  Calls Tryz.prog 140 #[.agg #[.int .i64 k, .int .u64 o, .bool u, .bool r, .bool x, .bool s, .int .i64 (a : Int)]] w fun e w' => e = .returned (.int .u64 ((qem o u r x s a : Nat) : Int)) ∧ Below w.heap.size w w' := by
 have hor : bits BinOp.or IntKind.u64 (o : Int) 9007199254743808 = ((o ||| 9007199254743808 : Nat) : Int) := or_cast (k := 9007199254743808) ho (by omega)
 have hol := or_lt o 9007199254743808 ho (by omega)
 have hwr : IntKind.u64.wrap (a : Int) = (a : Int) := by rw [IntKind.wrap_u64]; omega
 have hpl := leafP_lt ho ha
 have hE : putE 2 3 a = 0 := by unfold putE; rw [if_neg (by decide), if_neg]; have : ones 3 = 7 := by decide +kernel
                                omega
 have hC := fun w1 => put_any 2 3 (o ||| 9007199254743808) a hol w1
 have c6 := fun ob => qbf (o := ob) hF.a0
 have c7 := fun ob => qbf (o := ob) hF.a1
 rw [hE] at hC
 change ∀ w1, Calls _ _ _ _ fun e w' => e = .returned (.tuple #[.int .u64 ((leafP o a : Nat) : Int), _]) ∧ _ at hC
 have HE : Hid (qem o u r x s a = orN (!x) (orN s (orN (!r) (orN u (leafP o a) 64) 128) 1024) 18014398509481984) := rfl
 generalize leafP o a = p at *
 generalize o ||| 9007199254743808 = q at *
 have l1 := orN_lt u (k := 64) hpl (by omega)
 have l2 := orN_lt (!r) (k := 128) l1 (by omega)
 have l3 := orN_lt s (k := 1024) l2 (by omega)
 have HI : Hid (((qem o u r x s a : Nat) : Int) = orI (!x) (orI s (orI (!r) (orI u (p : Int) 64) 128) 1024) 18014398509481984) := by
  show ((qem o u r x s a : Nat) : Int) = _
  rw [HE.out, orN_cast _ l3 (by omega), orN_cast _ l2 (by omega), orN_cast _ l1 (by omega), orN_cast _ hpl (by omega)]; rfl
 clear HE l1 l2 l3 hpl
 go_enter Tryz.func140, Tryz.ntmps140
 go_wp2_with fail
 refine (hC _).mono ?_
 rintro e w1 ⟨rfl, hbm⟩
 have d2 : w1.cell? ⟨w.heap.size, 2, none⟩ = some (.bool u) := cell_later hbm (by simp)
 have d3 : w1.cell? ⟨w.heap.size, 3, none⟩ = some (.bool r) := cell_later hbm (by simp)
 have d4 : w1.cell? ⟨w.heap.size, 4, none⟩ = some (.bool x) := cell_later hbm (by simp)
 have d5 : w1.cell? ⟨w.heap.size, 5, none⟩ = some (.bool s) := cell_later hbm (by simp)
 have hB : Below w.heap.size w w1 := qab (qac _ _) hbm
 clear hC hbm hF c6 c7 hE hwr hor hol ho ha
 go_wp2
 all_goals go_ret
 all_goals refine ⟨?_, hB⟩
 all_goals (rw [HI.out]; simp_all [orI]; done)
def encN (k : Int) (o : Nat) (u r x s : Bool) (a : Int) : Nat :=
 if k = 1 then o ||| 1 ||| 2 else if k = 2 then qem o u r x s a.toNat ||| 1 else if k = 3 then qem o u r x s a.toNat ||| 1 ||| 2 else 0
def encE (l k : Int) (o : Nat) (u r x s : Bool) (a : Int) : Int := if isLv l = false then 12 else if qbr l k o u r x s a = false then 10 else 0
def encW (l k : Int) (o : Nat) (u r x s : Bool) (a : Int) : Nat := if qbr l k o u r x s a = false then 0 else encN k o u r x s a
theorem leafN_lt {o : Nat} (u r x s : Bool) {a : Nat} (ho : o < 18446744073709551616) (ha : a ≤ 7) : qem o u r x s a < 18446744073709551616 :=
 orN_lt _ (orN_lt _ (orN_lt _ (orN_lt _ (leafP_lt ho ha) (by omega)) (by omega)) (by omega)) (by omega)
theorem rightP_lv {l k : Int} {o : Nat} {u r x s : Bool} {a : Int} (h : qbr l k o u r x s a = true) : isLv l = true := by
 unfold qbr at h
 cases hl : isLv l
 ·rw [if_pos hl] at h; cases h
 ·rfl
theorem rightP_leaf {l : Int} {o : Nat} {u r x s : Bool} {a : Int} {k : Int} (hk : k = 2 ∨ k = 3) (h : qbr l k o u r x s a = true) : 0 ≤ a ∧ a ≤ 7 := by
 have hl : ¬ isLv l = false := by rw [rightP_lv h]; decide
 unfold qbr at h
 rw [if_neg hl] at h
 have hb : qeo l o a = true := by
  rcases hk with rfl | rfl
  ·rw [if_neg (by decide), if_neg (by decide), if_pos rfl, Bool.and_eq_true] at h; exact h.2
  ·rw [if_neg (by decide), if_neg (by decide), if_neg (by decide), if_pos rfl, Bool.and_eq_true] at h; exact h.2
 unfold qeo at hb
 rw [Bool.and_eq_true] at hb
 exact of_decide_eq_true hb.2
theorem rightP_kind {l k : Int} {o : Nat} {u r x s : Bool} {a : Int} (h : qbr l k o u r x s a = true) : k = 0 ∨ k = 1 ∨ k = 2 ∨ k = 3 := by
 have hl : ¬ isLv l = false := by rw [rightP_lv h]; decide
 unfold qbr at h
 rw [if_neg hl] at h
 by_cases h0 : k = 0
 ·exact Or.inl h0
 by_cases h1 : k = 1
 ·exact Or.inr (Or.inl h1)
 by_cases h2 : k = 2
 ·exact Or.inr (Or.inr (Or.inl h2))
 by_cases h3 : k = 3
 ·exact Or.inr (Or.inr (Or.inr h3))
 rw [if_neg h0, if_neg h1, if_neg h2, if_neg h3] at h; cases h
theorem encode_any (l k : Int) (o : Nat) (u r x s : Bool) (a : Int) (ho : o < 18446744073709551616) (w : World) (hF : Flds w) :
  Calls Tryz.prog 120 #[.int .i64 l, .agg #[.int .i64 k, .int .u64 o, .bool u, .bool r, .bool x, .bool s, .int .i64 a]] w fun e w' => e = .returned (.tuple #[.int .u64 ((encW l k o u r x s a : Nat) : Int), .int .i64 (encE l k o u r x s a)]) ∧ Below w.heap.size w w' := by
 cases hl : isLv l
 ·have HE : Hid (encE l k o u r x s a = 12 ∧ encW l k o u r x s a = 0) := by
   have hr : qbr l k o u r x s a = false := by unfold qbr; rw [if_pos hl]
   exact ⟨by unfold encE; rw [if_pos hl], by unfold encW; rw [if_pos hr]⟩
  go_enter Tryz.func120, Tryz.ntmps120
  go_wp2_with (go_at_call 118; refine (qbg _ _).mono ?_; rintro e w' ⟨rfl, rfl⟩; rw [hl])
  go_ret2
  exact ⟨by rw [HE.out.1, HE.out.2]; rfl, qac _ _⟩
 have hlf : ¬ isLv l = false := by rw [hl]; decide
 have hR := fun w1 (h : Flds w1) => right_d l k o u r x s a ho w1 h
 have hF1 := hF.alloc (.cells #[.int .i64 k, .int .u64 o, .bool u, .bool r, .bool x, .bool s, .int .i64 a] 89)
 cases hr : qbr l k o u r x s a
 ·have HE : Hid (encE l k o u r x s a = 10 ∧ encW l k o u r x s a = 0) :=
   ⟨by unfold encE; rw [if_neg hlf, if_pos hr], by unfold encW; rw [if_pos hr]⟩
  rw [hr] at hR
  clear hlf hr
  go_enter Tryz.func120, Tryz.ntmps120
  go_wp2_with (first
   | (go_at_call 118; refine (qbg _ _).mono ?_; rintro e w' ⟨rfl, rfl⟩; rw [hl])
   | (go_at_call 139; refine (hR _ hF1).mono ?_; rintro e w' ⟨rfl, hbm⟩))
  go_ret2
  exact ⟨by rw [HE.out.1, HE.out.2]; rfl, qab (qac _ _) hbm⟩
 have hrf : ¬ qbr l k o u r x s a = false := by rw [hr]; decide
 have hE0 : encE l k o u r x s a = 0 := by unfold encE; rw [if_neg hlf, if_neg hrf]
 have hW0 : encW l k o u r x s a = encN k o u r x s a := by unfold encW; rw [if_neg hrf]
 rw [hr] at hR
 rw [hE0, hW0]
 rcases rightP_kind hr with rfl | rfl | rfl | rfl
 ·have HE : Hid (encN 0 o u r x s a = 0) := rfl
  clear hE0 hW0 hlf hrf hr
  go_enter Tryz.func120, Tryz.ntmps120
  go_wp2_with (first
   | (go_at_call 118; refine (qbg _ _).mono ?_; rintro e w' ⟨rfl, rfl⟩; rw [hl])
   | (go_at_call 139; refine (hR _ hF1).mono ?_; rintro e w' ⟨rfl, hbm⟩; have d0 : w'.cell? ⟨w.heap.size, 0, none⟩ = some (.int .i64 0) := cell_later hbm (by simp)))
  go_ret2
  exact ⟨by rw [HE.out]; rfl, qab (qac _ _) hbm⟩
 ·have hl1 := or_lt o 1 ho (by omega)
  have HE : Hid (((encN 1 o u r x s a : Nat) : Int) = bits BinOp.or IntKind.u64 (bits BinOp.or IntKind.u64 (o : Int) 1) 2) := by
   show ((encN 1 o u r x s a : Nat) : Int) = _
   have e1 : bits BinOp.or IntKind.u64 (o : Int) 1 = ((o ||| 1 : Nat) : Int) := or_cast (k := 1) ho (by omega)
   have e2 : bits BinOp.or IntKind.u64 ((o ||| 1 : Nat) : Int) 2 = ((o ||| 1 ||| 2 : Nat) : Int) := or_cast (k := 2) hl1 (by omega)
   rw [e1, e2]; rfl
  clear hE0 hW0 hlf hrf hr hl1
  go_enter Tryz.func120, Tryz.ntmps120
  go_wp2_with (first
   | (go_at_call 118; refine (qbg _ _).mono ?_; rintro e w' ⟨rfl, rfl⟩; rw [hl])
   | (go_at_call 139; refine (hR _ hF1).mono ?_; rintro e w' ⟨rfl, hbm⟩; have d0 : w'.cell? ⟨w.heap.size, 0, none⟩ = some (.int .i64 1) := cell_later hbm (by simp); have d1 : w'.cell? ⟨w.heap.size, 1, none⟩ = some (.int .u64 o) := cell_later hbm (by simp)))
  go_ret2
  exact ⟨by rw [HE.out]; rfl, qab (qac _ _) hbm⟩
 all_goals
  obtain ⟨ha1, ha2⟩ := rightP_leaf (by first | exact Or.inl rfl | exact Or.inr rfl) hr
  obtain ⟨n, rfl⟩ := Int.eq_ofNat_of_zero_le ha1
  have hn : n ≤ 7 := by omega
  have hll := leafN_lt u r x s ho hn
  have hl1 := or_lt _ 1 hll (by omega)
 ·have HE : Hid (((encN 2 o u r x s (n : Int) : Nat) : Int) = bits BinOp.or IntKind.u64 ((qem o u r x s n : Nat) : Int) 1) := by
   show ((encN 2 o u r x s (n : Int) : Nat) : Int) = _
   have e1 : bits BinOp.or IntKind.u64 ((qem o u r x s n : Nat) : Int) 1 = ((qem o u r x s n ||| 1 : Nat) : Int) := or_cast (k := 1) hll (by omega)
   rw [e1]; rfl
  have hC := fun w1 h => leafWord_any 2 o u r x s n ho hn w1 h
  generalize qem o u r x s n = N at *
  clear hE0 hW0 hlf hrf hr hl1 ha1 ha2
  go_enter Tryz.func120, Tryz.ntmps120
  go_wp2_with (first
   | (go_at_call 118; refine (qbg _ _).mono ?_; rintro e w' ⟨rfl, rfl⟩; rw [hl])
   | (go_at_call 139; refine (hR _ hF1).mono ?_; rintro e w' ⟨rfl, hbm⟩
      have dF := hF1.later hbm
      have hB : Below w.heap.size w w' := qab (qac _ _) hbm
      have d0 : w'.cell? ⟨w.heap.size, 0, none⟩ = some (.int .i64 2) := cell_later hbm (by simp)
      have d1 : w'.cell? ⟨w.heap.size, 1, none⟩ = some (.int .u64 o) := cell_later hbm (by simp)
      have d2 : w'.cell? ⟨w.heap.size, 2, none⟩ = some (.bool u) := cell_later hbm (by simp)
      have d3 : w'.cell? ⟨w.heap.size, 3, none⟩ = some (.bool r) := cell_later hbm (by simp)
      have d4 : w'.cell? ⟨w.heap.size, 4, none⟩ = some (.bool x) := cell_later hbm (by simp)
      have d5 : w'.cell? ⟨w.heap.size, 5, none⟩ = some (.bool s) := cell_later hbm (by simp)
      have d6 : w'.cell? ⟨w.heap.size, 6, none⟩ = some (.int .i64 (n : Int)) := cell_later hbm (by simp)
      clear hbm)
   | (go_at_call 140; refine (hC _ dF).mono ?_; rintro e w2 ⟨rfl, hb2⟩))
  go_ret2
  exact ⟨by rw [HE.out]; rfl, qab hB hb2⟩
 ·have HE : Hid (((encN 3 o u r x s (n : Int) : Nat) : Int) = bits BinOp.or IntKind.u64 (bits BinOp.or IntKind.u64 ((qem o u r x s n : Nat) : Int) 1) 2) := by
   show ((encN 3 o u r x s (n : Int) : Nat) : Int) = _
   have e1 : bits BinOp.or IntKind.u64 ((qem o u r x s n : Nat) : Int) 1 = ((qem o u r x s n ||| 1 : Nat) : Int) := or_cast (k := 1) hll (by omega)
   have e2 : bits BinOp.or IntKind.u64 ((qem o u r x s n ||| 1 : Nat) : Int) 2 = ((qem o u r x s n ||| 1 ||| 2 : Nat) : Int) := or_cast (k := 2) hl1 (by omega)
   rw [e1, e2]; rfl
  have hC := fun w1 h => leafWord_any 3 o u r x s n ho hn w1 h
  generalize qem o u r x s n = N at *
  clear hE0 hW0 hlf hrf hr hl1 ha1 ha2
  go_enter Tryz.func120, Tryz.ntmps120
  go_wp2_with (first
   | (go_at_call 118; refine (qbg _ _).mono ?_; rintro e w' ⟨rfl, rfl⟩; rw [hl])
   | (go_at_call 139; refine (hR _ hF1).mono ?_; rintro e w' ⟨rfl, hbm⟩
      have dF := hF1.later hbm
      have hB : Below w.heap.size w w' := qab (qac _ _) hbm
      have d0 : w'.cell? ⟨w.heap.size, 0, none⟩ = some (.int .i64 3) := cell_later hbm (by simp)
      have d1 : w'.cell? ⟨w.heap.size, 1, none⟩ = some (.int .u64 o) := cell_later hbm (by simp)
      have d2 : w'.cell? ⟨w.heap.size, 2, none⟩ = some (.bool u) := cell_later hbm (by simp)
      have d3 : w'.cell? ⟨w.heap.size, 3, none⟩ = some (.bool r) := cell_later hbm (by simp)
      have d4 : w'.cell? ⟨w.heap.size, 4, none⟩ = some (.bool x) := cell_later hbm (by simp)
      have d5 : w'.cell? ⟨w.heap.size, 5, none⟩ = some (.bool s) := cell_later hbm (by simp)
      have d6 : w'.cell? ⟨w.heap.size, 6, none⟩ = some (.int .i64 (n : Int)) := cell_later hbm (by simp)
      clear hbm)
   | (go_at_call 140; refine (hC _ dF).mono ?_; rintro e w2 ⟨rfl, hb2⟩))
  go_ret2
  exact ⟨by rw [HE.out]; rfl, qab hB hb2⟩
theorem and_pow (x i : Nat) : x &&& 2 ^ i = (x.testBit i).toNat * 2 ^ i := by
 apply Nat.eq_of_testBit_eq
 intro j
 rw [Nat.testBit_and, Nat.testBit_two_pow, qbu]
 by_cases h : i = j
 ·subst h
  cases x.testBit i <;> simp
 ·rw [decide_eq_false h, Bool.and_false]
  by_cases h2 : i ≤ j
  ·obtain ⟨d, hd⟩ : ∃ d, j - i = d + 1 := ⟨j - i - 1, by omega⟩
   rw [hd]; cases x.testBit i <;> simp [Nat.testBit_succ]
  ·rw [decide_eq_false h2]; rfl
theorem and_bit (x i : Nat) (hx : x < 18446744073709551616) (hi : i < 64) : (bits BinOp.and IntKind.u64 (x : Int) ((2 ^ i : Nat) : Int) == 0) = !x.testBit i := by
 have hp : 2 ^ i < 18446744073709551616 := Nat.pow_lt_pow_right (a := 2) (n := 64) (by omega) hi
 rw [bits_and_u64_nat _ _ hx hp, and_pow]
 have hq : 0 < 2 ^ i := Nat.two_pow_pos _
 generalize 2 ^ i = q at *
 cases x.testBit i
 ·simp
 ·rw [Bool.toNat_true, Nat.one_mul, Bool.not_true, beq_eq_false_iff_ne]; omega
theorem and_bitn (x i : Nat) (hx : x < 18446744073709551616) (hi : i < 64) : (bits BinOp.and IntKind.u64 (x : Int) ((2 ^ i : Nat) : Int) != 0) = x.testBit i := by
 have := and_bit x i hx hi
 rw [bne, this, Bool.not_not]
def outV (x : Nat) : Nat := x &&& qcn 12 36
theorem outV_lt (x : Nat) : outV x < 18446744073709551616 := Nat.lt_of_le_of_lt Nat.and_le_right (qfb _ _)
def leafQ (l : Int) (x : Nat) : Bool := x.testBit 0 && !(x.testBit 1 && decide (l < 3))
def rdK (l : Int) (x : Nat) : Int := if x.testBit 0 = false then 0 else if (x.testBit 1 && decide (l < 3)) = true then 1 else if x.testBit 1 = true then 3 else 2
def rdO (x : Nat) : Nat := if x.testBit 0 = false then 0 else outV x
def rdU (l : Int) (x : Nat) : Bool := leafQ l x && x.testBit 6
def rdR (l : Int) (x : Nat) : Bool := leafQ l x && !x.testBit 7
def rdX (l : Int) (x : Nat) : Bool := leafQ l x && !x.testBit 54
def rdS (l : Int) (x : Nat) : Bool := leafQ l x && x.testBit 10
def rdA (l : Int) (x : Nat) : Int := if leafQ l x = true then ((getV 2 3 x : Nat) : Int) else 0
theorem rdO_lt (x : Nat) : rdO x < 18446744073709551616 := by
 unfold rdO; by_cases h : x.testBit 0 = false
 ·rw [if_pos h]; omega
 ·rw [if_neg h]; exact outV_lt x
theorem qer (x : Nat) : getV 2 3 x ≤ 7 := by
 have e : qbj 2 3 = true := by decide
 have o : ones 3 = 7 := by decide +kernel
 unfold getV; rw [if_pos e, o]; exact Nat.and_le_right
abbrev dv (k : Int) (o : Nat) (u r x s : Bool) (a : Int) : Value := .agg #[.int .i64 k, .int .u64 (o : Int), .bool u, .bool r, .bool x, .bool s, .int .i64 a]
theorem qbw {w1 : World} {g t : Nat} {c0 c1 c2 c3 c4 c5 c6 : Value} (hh : w1.heap[g]? = some (.cells #[c0, c1, c2, c3, c4, c5, c6] t (0, 0))) :
  (w1.cell? ⟨g, 0, none⟩ = some c0 ∧ w1.cell? ⟨g, 1, none⟩ = some c1 ∧ w1.cell? ⟨g, 2, none⟩ = some c2 ∧ w1.cell? ⟨g, 3, none⟩ = some c3 ∧ w1.cell? ⟨g, 4, none⟩ = some c4 ∧ w1.cell? ⟨g, 5, none⟩ = some c5 ∧ w1.cell? ⟨g, 6, none⟩ = some c6) ∧
  ∀ i, w1.frozen? ⟨g, i, none⟩ = false := by
 refine ⟨⟨?_, ?_, ?_, ?_, ?_, ?_, ?_⟩, fun i => frozen_of_row _ _ _ _ _ hh⟩
 all_goals (rw [cell_of_row _ _ _ _ _ _ hh]; rfl)
theorem row7 {w1 : World} {g t : Nat} {c0 c1 c2 c3 c4 c5 c6 : Value} (v0 v1 v2 v3 v4 v5 v6 : Value) (hh : w1.heap[g]? = some (.cells #[c0, c1, c2, c3, c4, c5, c6] t (0, 0))) :
  (((((((w1.setCell ⟨g, 0, none⟩ v0).setCell ⟨g, 1, none⟩ v1).setCell ⟨g, 2, none⟩ v2).setCell ⟨g, 3, none⟩ v3).setCell ⟨g, 4, none⟩ v4).setCell ⟨g, 5, none⟩ v5).setCell ⟨g, 6, none⟩ v6).heap[g]? = some (.cells #[v0, v1, v2, v3, v4, v5, v6] t (0, 0)) := by
 have h0 := heap_setCell_same _ g 0 _ _ v0 hh
 simp only [List.setIfInBounds_toArray, List.set_cons_zero] at h0
 have h1 := heap_setCell_same _ g 1 _ _ v1 h0
 simp only [List.setIfInBounds_toArray, List.set_cons_zero, List.set_cons_succ] at h1
 have h2 := heap_setCell_same _ g 2 _ _ v2 h1
 simp only [List.setIfInBounds_toArray, List.set_cons_zero, List.set_cons_succ] at h2
 have h3 := heap_setCell_same _ g 3 _ _ v3 h2
 simp only [List.setIfInBounds_toArray, List.set_cons_zero, List.set_cons_succ] at h3
 have h4 := heap_setCell_same _ g 4 _ _ v4 h3
 simp only [List.setIfInBounds_toArray, List.set_cons_zero, List.set_cons_succ] at h4
 have h5 := heap_setCell_same _ g 5 _ _ v5 h4
 simp only [List.setIfInBounds_toArray, List.set_cons_zero, List.set_cons_succ] at h5
 have h6 := heap_setCell_same _ g 6 _ _ v6 h5
 simp only [List.setIfInBounds_toArray, List.set_cons_zero, List.set_cons_succ] at h6
 exact h6
theorem qcx {w w1 : World} {B g : Nat} (hB : Below B w w1) (hg : B ≤ g) (v0 v1 v2 v3 v4 v5 v6 : Value) :
  Below B w (((((((w1.setCell ⟨g, 0, none⟩ v0).setCell ⟨g, 1, none⟩ v1).setCell ⟨g, 2, none⟩ v2).setCell ⟨g, 3, none⟩ v3).setCell ⟨g, 4, none⟩ v4).setCell ⟨g, 5, none⟩ v5).setCell ⟨g, 6, none⟩ v6) :=
 ((((((hB.setCell hg _).setCell hg _).setCell hg _).setCell hg _).setCell hg _).setCell hg _).setCell hg _
theorem zP03x01 {Z : Prop} (z : Z := by
 rw [b1] at t1
 rw [HE.out.1, HE.out.2.1, HE.out.2.2.1, HE.out.2.2.2.1, HE.out.2.2.2.2.1, HE.out.2.2.2.2.2]
 clear HE h0 b1
 generalize x.testBit 6 = B6 at *
 generalize x.testBit 7 = B7 at *
 generalize x.testBit 54 = B54 at *
 generalize x.testBit 10 = B10 at *
 generalize getV 2 3 x = G at *
 go_enter Tryz.func119, Tryz.ntmps119
 go_wp2_with fail
 refine (hM _).mono ?_
 rintro e w1 ⟨rfl, hbm⟩
 have hh : w1.heap[w.heap.size]? = some (.cells #[.int .i64 0, .int .u64 0, .bool false, .bool false, .bool false, .bool false, .int .i64 0] 89 (0, 0)) := by
  rw [hbm.block _ (by simp)]; exact heap_alloc_new _ _
 have hB : Below w.heap.size w w1 := qab (qac _ _) hbm
 have hsz : w.heap.size < w1.heap.size := by have := hbm.size; simp at this; omega
 have d0 := cell_later hB hF.a0
 have d1 := cell_later hB hF.a1
 clear hM hbm c0 c1 hF
 go_wp2_with fail
 refine (hG _).mono ?_
 rintro e w2 ⟨rfl, hb2⟩
 have hh2 : w2.heap[w.heap.size]? = some (.cells #[.int .i64 0, .int .u64 0, .bool false, .bool false, .bool false, .bool false, .int .i64 0] 89 (0, 0)) := by
  rw [hb2.block _ hsz]; exact hh
 have hB2 : Below w.heap.size w w2 := qab hB hb2
 obtain ⟨⟨g0, g1, g2, g3, g4, g5, g6⟩, gf⟩ := qbw hh2
 have HH : Hid _ := hh2
 clear hh hh2 hB hb2 hG d0 d1 hsz
 go_wp2
 first
 | refine bodyPost_ret (v := dv 2 O B6 (!B7) (!B54) B10 (G : Int)) ?_ rfl ⟨rfl, qcx hB2 (Nat.le_refl _) _ _ _ _ _ _ _⟩
 | refine bodyPost_ret (v := dv 3 O B6 (!B7) (!B54) B10 (G : Int)) ?_ rfl ⟨rfl, qcx hB2 (Nat.le_refl _) _ _ _ _ _ _ _⟩
 ·exact results_cell_row rfl _ _ w.heap.size 89 _ _ _ rfl (row7 _ _ _ _ _ _ _ HH.out) Tryz.underlying89 rfl (by kernel_rfl)) : Z := z
theorem reading_any (l : Int) (x : Nat) (hx : x < 18446744073709551616) (w : World) (hF : Flds w) :
  Calls Tryz.prog 119 #[.int .i64 l, .int .u64 x] w fun e w' => e = .returned (dv (rdK l x) (rdO x) (rdU l x) (rdR l x) (rdX l x) (rdS l x) (rdA l x)) ∧ Below w.heap.size w w' := by
 have t0 : (bits BinOp.and IntKind.u64 (x : Int) 1 == 0) = !x.testBit 0 := and_bit x 0 hx (by omega)
 cases h0 : x.testBit 0
 ·have HE : Hid (rdK l x = 0 ∧ rdO x = 0 ∧ rdU l x = false ∧ rdR l x = false ∧ rdX l x = false ∧ rdS l x = false ∧ rdA l x = 0) := by
   show _ ∧ _
   unfold rdK rdO rdU rdR rdX rdS rdA leafQ; simp [h0]
  rw [h0] at t0
  rw [HE.out.1, HE.out.2.1, HE.out.2.2.1, HE.out.2.2.2.1, HE.out.2.2.2.2.1, HE.out.2.2.2.2.2.1, HE.out.2.2.2.2.2.2]
  clear h0 HE
  go_enter Tryz.func119, Tryz.ntmps119
  go_wp2
  refine bodyPost_ret (v := dv 0 0 false false false false 0) ?_ rfl ⟨rfl, qac _ _⟩
  exact results_cell_row rfl _ _ w.heap.size 89 _ _ _ rfl (heap_alloc_new _ _) Tryz.underlying89 rfl (by kernel_rfl)
 have hM := fun w1 => mask_any 12 36 w1
 have hO : bits BinOp.and IntKind.u64 (x : Int) ((qcn 12 36 : Nat) : Int) = ((outV x : Nat) : Int) := bits_and_u64_nat _ _ hx (qfb _ _)
 have t1 : (bits BinOp.and IntKind.u64 (x : Int) 2 != 0) = x.testBit 1 := and_bitn x 1 hx (by omega)
 have hD : rdO x = outV x := by unfold rdO; rw [h0]; rfl
 have c0 := fun ob => qbf (o := ob) hF.o0
 have c1 := fun ob => qbf (o := ob) hF.o1
 rw [hD]
 generalize qcn 12 36 = M at *
 generalize outV x = O at *
 rw [h0] at t0
 have q1 : (x.testBit 1 && decide (l < 3)) = true ∨ (x.testBit 1 && decide (l < 3)) = false := by cases (x.testBit 1 && decide (l < 3)) <;> simp
 rcases q1 with q1 | q1
 ·rw [Bool.and_eq_true] at q1
  obtain ⟨b1, d3⟩ := q1
  have HE : Hid (rdK l x = 1 ∧ rdU l x = false ∧ rdR l x = false ∧ rdX l x = false ∧ rdS l x = false ∧ rdA l x = 0) := by
   show _ ∧ _
   unfold rdK rdU rdR rdX rdS rdA leafQ; simp [h0, b1, d3]
  rw [b1] at t1
  rw [HE.out.1, HE.out.2.1, HE.out.2.2.1, HE.out.2.2.2.1, HE.out.2.2.2.2.1, HE.out.2.2.2.2.2]
  clear HE h0 b1
  go_enter Tryz.func119, Tryz.ntmps119
  go_wp2_with fail
  refine (hM _).mono ?_
  rintro e w1 ⟨rfl, hbm⟩
  have hh : w1.heap[w.heap.size]? = some (.cells #[.int .i64 0, .int .u64 0, .bool false, .bool false, .bool false, .bool false, .int .i64 0] 89 (0, 0)) := by
   rw [hbm.block _ (by simp)]; exact heap_alloc_new _ _
  have hB : Below w.heap.size w w1 := qab (qac _ _) hbm
  clear hM hbm c0 c1 hF
  obtain ⟨⟨g0, g1, g2, g3, g4, g5, g6⟩, gf⟩ := qbw hh
  have HH : Hid _ := hh
  clear hh
  go_wp2
  refine bodyPost_ret (v := dv 1 O false false false false 0) ?_ rfl ⟨rfl, qcx hB (Nat.le_refl _) _ _ _ _ _ _ _⟩
  ·exact results_cell_row rfl _ _ w.heap.size 89 _ _ _ rfl (row7 _ _ _ _ _ _ _ HH.out) Tryz.underlying89 rfl (by kernel_rfl)
 have t6 : (bits BinOp.and IntKind.u64 (x : Int) 64 != 0) = x.testBit 6 := and_bitn x 6 hx (by omega)
 have t7 : (bits BinOp.and IntKind.u64 (x : Int) 128 == 0) = !x.testBit 7 := and_bit x 7 hx (by omega)
 have t54 : (bits BinOp.and IntKind.u64 (x : Int) 18014398509481984 == 0) = !x.testBit 54 := and_bit x 54 hx (by omega)
 have t10 : (bits BinOp.and IntKind.u64 (x : Int) 1024 != 0) = x.testBit 10 := and_bitn x 10 hx (by omega)
 have hG := fun w1 => get_any 2 3 x hx w1
 have hw : IntKind.i64.wrap ((getV 2 3 x : Nat) : Int) = ((getV 2 3 x : Nat) : Int) := by have := qer x; rw [IntKind.wrap_i64]; omega
 cases b1 : x.testBit 1
 ·clear q1
  have HE : Hid (rdK l x = 2 ∧ rdU l x = x.testBit 6 ∧ rdR l x = !x.testBit 7 ∧ rdX l x = !x.testBit 54 ∧ rdS l x = x.testBit 10 ∧ rdA l x = ((getV 2 3 x : Nat) : Int)) := by
   show _ ∧ _
   unfold rdK rdU rdR rdX rdS rdA leafQ; simp [h0, b1]
  exact zP03x01
 ·rw [b1, Bool.true_and] at q1
  have HE : Hid (rdK l x = 3 ∧ rdU l x = x.testBit 6 ∧ rdR l x = !x.testBit 7 ∧ rdX l x = !x.testBit 54 ∧ rdS l x = x.testBit 10 ∧ rdA l x = ((getV 2 3 x : Nat) : Int)) := by
   show _ ∧ _
   unfold rdK rdU rdR rdX rdS rdA leafQ; simp [h0, b1, q1]
  exact zP03x01
end Go.Proofs.YtfdbdeckohaneaaGreatDoor
