/- The anchor of layer 6's statements: four tables in a row, and a page; an empty table. -/
import Derived.Test.YtjhplcpaaghleaaDoorLaidW
namespace Go.Proofs.YtjhplcpaaghleaaDoor
open Go.RowKit Go.Maps

def ancA (i : Nat) : Nat := if i = 0 then 4096 else if i = 1 then 8192 else if i = 2 then 12288 else if i = 3 then 16392 else 0
def ancV (i : Nat) : Nat := if i = 0 then 8195 else if i = 1 then 12291 else if i = 2 then 16387 else if i = 3 then 27021597764247363 else 0
theorem anc_lt : (∀ i, ancA i < 18446744073709551616) ∧ ∀ i, ancV i < 18446744073709551616 := by
  constructor
  · intro i; unfold ancA; repeat' split
    all_goals decide
  · intro i; unfold ancV; repeat' split
    all_goals decide
theorem anc_one : (wk0 65536 (fW 65536 ancA ancV 4) 0 4096 4112).2 = (0, 3, 27021597764247363) := by decide +kernel
theorem anc_two : (wk0 65536 (fW 65536 ancA ancV 4) 0 24576 0).2 = (1, 0, 0) := by decide +kernel
theorem anc_leaf : leafL (0, 3, 27021597764247363) = [.int .i64 3, .int .i64 3, .int .u64 (20480 : Nat), .bool true, .bool true, .bool false, .bool true, .int .i64 0] := by
  have e0 : rdK 3 27021597764247363 = 3 := by decide +kernel
  have e1 : rdO 27021597764247363 = 20480 := by decide +kernel
  have e2 : rdU 3 27021597764247363 = true := by decide +kernel
  have e3 : rdR 3 27021597764247363 = true := by decide +kernel
  have e4 : rdX 3 27021597764247363 = false := by decide +kernel
  have e5 : rdS 3 27021597764247363 = true := by decide +kernel
  have e6 : rdA 3 27021597764247363 = 0 := by decide +kernel
  show Value.int .i64 3 :: d7 3 27021597764247363 = _
  unfold d7
  rw [e0, e1, e2, e3, e4, e5, e6]

set_option maxHeartbeats 4000000 in
theorem wanchor_any (w : World) (hF : Flds w) :
    Calls Tryd.prog 7 #[] w fun e w' => e = .returned (.bool true) ∧ Below w.heap.size w w' := by
  have hO := fun w1 => out_any 3 3 20480 true true false true 0 4112 (by omega) (by decide +kernel) w1
  rw [show 20480 + offV 4112 3 = 20496 by decide +kernel] at hO
  have HF := Hid.mk hF
  clear hF
  go_enter Tryd.func7, Tryd.ntmps7
  go_wp2_with fail
  refine (laid_ok 65536 4 4 (some ⟨w.heap.size, 0, none⟩) ancA ancV ⟨by decide, by decide, by decide⟩ (by decide) _ ⟨fun i hi => ⟨w.heap.size, 0, rfl, by simp, ?_⟩, anc_lt.1, anc_lt.2⟩).mono ?_
  · have h4 : i = 0 ∨ i = 1 ∨ i = 2 ∨ i = 3 := by omega
    rcases h4 with rfl | rfl | rfl | rfl
    · constructor <;> simp [ancA, ancV]
    · constructor <;> simp [ancA, ancV]
    · constructor <;> simp [ancA, ancV]
    · constructor <;> simp [ancA, ancV]
  rintro e w1 ⟨a, v, rfl, hL⟩
  have hF1 := HF.out.later (below_tr (below_new _ _) hL.bel)
  have hB1 := below_tr (below_new w _) hL.bel
  obtain ⟨X, hM, -⟩ := hL.mem
  obtain ⟨L, hp, -⟩ := hL.lst
  obtain ⟨p, c, rfl, -⟩ := hp.form
  clear hL hp HF
  have HM := Hid.mk hM
  have HF1 := Hid.mk hF1
  have HB1 := Hid.mk hB1
  generalize L.length = N at *
  clear hM hF1 hB1
  go_wp2_with fail
  refine (walk_any 4096 4112 (by omega) (HM.out.below (below_new _ _)) (HF1.out.later (below_new _ _))).mono ?_
  rintro e w2 ⟨rfl, hb2⟩
  rw [anc_one, anc_leaf, show faultL (0, 3, 27021597764247363) = [.int .i64 0, .int .i64 0] from rfl]
  have HM2 := Hid.mk (HM.out.below (below_tr (below_new _ _) hb2))
  have HF2 := Hid.mk (HF1.out.later (below_tr (below_new _ _) hb2))
  have HB2 := Hid.mk (below_tr HB1.out (below_tr (below_new _ _) hb2))
  clear hb2 HM HF1 HB1
  go_wp2_with fail
  have K4 := Hid.mk (heap_alloc2_old w2 (.cells #[.int .i64 3, .int .i64 3, .int .u64 20480, .bool true, .bool true, .bool false, .bool true, .int .i64 0] 35) (.cells #[.int .i64 0, .int .i64 0] 37))
  have K5 := Hid.mk (heap_alloc2_new w2 (.cells #[.int .i64 3, .int .i64 3, .int .u64 20480, .bool true, .bool true, .bool false, .bool true, .int .i64 0] 35) (.cells #[.int .i64 0, .int .i64 0] 37))
  refine (walk_any 24576 0 (by omega) (HM2.out.below (below2 _ _ _)) (HF2.out.later (below2 _ _ _))).mono ?_
  rintro e w3 ⟨rfl, hb3⟩
  rw [anc_two, show leafL (1, 0, 0) = [.int .i64 0, .int .i64 0, .int .u64 0, .bool false, .bool false, .bool false, .bool false, .int .i64 0] from rfl, show faultL (1, 0, 0) = [.int .i64 1, .int .i64 0] from rfl]
  have HB3 := Hid.mk (below_tr HB2.out (below_tr (below2 _ _ _) hb3))
  have k4 := block_later (below_tr hb3 (below2 w3 (.cells #[.int .i64 0, .int .i64 0, .int .u64 0, .bool false, .bool false, .bool false, .bool false, .int .i64 0] 35) (.cells #[.int .i64 1, .int .i64 0] 37))) K4.out
  have k5 := block_later (below_tr hb3 (below2 w3 (.cells #[.int .i64 0, .int .i64 0, .int .u64 0, .bool false, .bool false, .bool false, .bool false, .int .i64 0] 35) (.cells #[.int .i64 1, .int .i64 0] 37))) K5.out
  have k7 := heap_alloc2_new w3 (.cells #[.int .i64 0, .int .i64 0, .int .u64 0, .bool false, .bool false, .bool false, .bool false, .int .i64 0] 35) (.cells #[.int .i64 1, .int .i64 0] 37)
  have HB4 := Hid.mk (below_tr HB3.out (below2 w3 (.cells #[.int .i64 0, .int .i64 0, .int .u64 0, .bool false, .bool false, .bool false, .bool false, .int .i64 0] 35) (.cells #[.int .i64 1, .int .i64 0] 37)))
  have k4' := Hid.mk k4
  have k5' := Hid.mk k5
  have k7' := Hid.mk k7
  clear hb3 HM2 HF2 HB2 K4 K5 k4 k5 k7 HB3
  go_upto_region 6 with fail
  generalize (w3.alloc (.cells #[.int .i64 0, .int .i64 0, .int .u64 0, .bool false, .bool false, .bool false, .bool false, .int .i64 0] 35)).alloc (.cells #[.int .i64 1, .int .i64 0] 37) = w5 at *
  obtain ⟨⟨a0, a1, a2, a3, a4, a5, a6, a7⟩, af⟩ := cells8 k4'.out
  obtain ⟨b0, b1, bf0, bf1⟩ := row2_facts k5'.out
  clear af bf0 bf1 k4' k5'
  go_wp2_with fail
  refine (hO _).mono ?_
  rintro e w4 ⟨rfl, hb4⟩
  have HB5 := Hid.mk (below_tr HB4.out hb4)
  have k8 := block_later hb4 k7'.out
  obtain ⟨c0, c1, cf0, cf1⟩ := row2_facts k8
  clear hb4 HB4 k8 k7' a0 a1 a2 a3 a4 a5 a6 a7 b0 b1
  go_wp2
  go_ret
  exact ⟨rfl, HB5.out⟩
end Go.Proofs.YtjhplcpaaghleaaDoor
