/- The anchor of layer 4's statements: the document's example. And the document's table of covered bits. -/
import Derived.Test.YtoolmhkonhcfpaaDoorDescG
namespace Go.Proofs.YtoolmhkonhcfpaaDoor
open Go.RowKit

theorem low_lv {l : Int} (hl : isLv l = true) : l = 0 ∨ l = 1 ∨ l = 2 ∨ l = 3 := by have := isLv_of hl; omega

set_option maxHeartbeats 2000000 in
theorem refLow_any (l : Int) (hl : isLv l = true) (w : World) :
    Calls Tryd.prog 19 #[.int .i64 l] w fun e w' => e = .returned (.int .i64 (lowL l)) ∧ Below w.heap.size w w' := by
  rcases low_lv hl with rfl | rfl | rfl | rfl
  all_goals
    go_enter Tryd.func19, Tryd.ntmps19
    go_wp2
    go_ret
    exact ⟨rfl, below_new _ _⟩

set_option maxHeartbeats 2000000 in
theorem anchor_any (w : World) (hF : Flds w) :
    Calls Tryd.prog 7 #[] w fun e w' => e = .returned (.bool true) ∧ Below w.heap.size w w' := by
  have hE : encE 3 3 20480 true true false true 0 = 0 := by decide +kernel
  have hW : encW 3 3 20480 true true false true 0 = 27021597764247363 := by decide +kernel
  have hC := fun w1 h => encode_any 3 3 20480 true true false true 0 (by omega) w1 h
  have hD := fun w1 h => decode_ok 3 27021597764247363 (by omega) (by decide) (by decide +kernel) (by decide +kernel) w1 h
  have e0 : rdK 3 27021597764247363 = 3 := by decide +kernel
  have e1 : rdO 27021597764247363 = 20480 := by decide +kernel
  have e2 : rdU 3 27021597764247363 = true := by decide +kernel
  have e3 : rdR 3 27021597764247363 = true := by decide +kernel
  have e4 : rdX 3 27021597764247363 = false := by decide +kernel
  have e5 : rdS 3 27021597764247363 = true := by decide +kernel
  have e6 : rdA 3 27021597764247363 = 0 := by decide +kernel
  rw [hE, hW] at hC
  rw [e0, e1, e2, e3, e4, e5, e6] at hD
  clear hE hW e0 e1 e2 e3 e4 e5 e6
  go_enter Tryd.func7, Tryd.ntmps7
  go_wp2_with fail
  refine (hC _ (hF.alloc _)).mono ?_
  rintro e w1 ⟨rfl, hb1⟩
  have hF1 := (hF.alloc _).later hb1
  have k0 : w1.cell? ⟨w.heap.size, 0, none⟩ = some (.int .i64 3) := cell_later hb1 (by simp)
  have k1 : w1.cell? ⟨w.heap.size, 1, none⟩ = some (.int .u64 20480) := cell_later hb1 (by simp)
  have k2 : w1.cell? ⟨w.heap.size, 2, none⟩ = some (.bool true) := cell_later hb1 (by simp)
  have k3 : w1.cell? ⟨w.heap.size, 3, none⟩ = some (.bool true) := cell_later hb1 (by simp)
  have k4 : w1.cell? ⟨w.heap.size, 4, none⟩ = some (.bool false) := cell_later hb1 (by simp)
  have k5 : w1.cell? ⟨w.heap.size, 5, none⟩ = some (.bool true) := cell_later hb1 (by simp)
  have k6 : w1.cell? ⟨w.heap.size, 6, none⟩ = some (.int .i64 0) := cell_later hb1 (by simp)
  have hB1 : Below w.heap.size w w1 := below_tr (below_new _ _) hb1
  clear hb1 hC
  go_wp2_with fail
  refine (hD _ hF1).mono ?_
  rintro e w2 ⟨rfl, hb2⟩
  replace k0 := cell_later hb2 k0
  replace k1 := cell_later hb2 k1
  replace k2 := cell_later hb2 k2
  replace k3 := cell_later hb2 k3
  replace k4 := cell_later hb2 k4
  replace k5 := cell_later hb2 k5
  replace k6 := cell_later hb2 k6
  have j0 := fun ob => cell_alloc (o := ob) k0
  have j1 := fun ob => cell_alloc (o := ob) k1
  have j2 := fun ob => cell_alloc (o := ob) k2
  have j3 := fun ob => cell_alloc (o := ob) k3
  have j4 := fun ob => cell_alloc (o := ob) k4
  have j5 := fun ob => cell_alloc (o := ob) k5
  have j6 := fun ob => cell_alloc (o := ob) k6
  clear k0 k1 k2 k3 k4 k5 k6
  go_wp2
  go_ret
  exact ⟨rfl, (below_tr hB1 hb2).alloc (below_tr hB1 hb2).size _⟩

end Go.Proofs.YtoolmhkonhcfpaaDoor
