/- Machines: the law's step, with the document's machine of noughts: kinds other, 2, 6, 8, 7a, 7b, 10, 12. -/
import Derived.Test.YtndjhedoandinaaGreatDoorMmP6
import Derived.Test.YtndjhedoandinaaGreatDoorMmP4

/- Machines: the law's step, with the document's machine of noughts. -/
namespace Go.Proofs.YtndjhedoandinaaGreatDoor.MM
open Go.RowKit Go.Maps

theorem Kp.less {l l' : List Nat} {w w' : World} (h : Kp l w w') (hl : ∀ g ∈ l', g ∈ l) : Kp l' w w' := ⟨h.1, fun g hg => h.2 g (hl g hg)⟩
theorem cells8p {w : World} {g t : Nat} {c0 c1 c2 c3 c4 c5 c6 c7 : Value} (hh : w.heap[g]? = some (.cells #[c0, c1, c2, c3, c4, c5, c6, c7] t (0, 0))) : w.cell? ⟨g, 0, none⟩ = some c0 ∧ w.cell? ⟨g, 1, none⟩ = some c1 ∧ w.cell? ⟨g, 2, none⟩ = some c2 ∧ w.cell? ⟨g, 3, none⟩ = some c3 ∧ w.cell? ⟨g, 4, none⟩ = some c4 ∧ w.cell? ⟨g, 5, none⟩ = some c5 ∧ w.cell? ⟨g, 6, none⟩ = some c6 ∧ w.cell? ⟨g, 7, none⟩ = some c7 := by
  refine ⟨?_, ?_, ?_, ?_, ?_, ?_, ?_, ?_⟩
  all_goals (rw [cell_of_row _ _ _ _ _ _ hh]; rfl)
theorem info_u64 : (Tryz.prog.info? 26).map (·.size) = some 1 := by kernel_rfl
set_option maxRecDepth 100000 in
theorem mk9 (w : World) : ∃ arr, (Instr.makeSlice 95 (.int .i64 9) (.int .i64 9)).run Tryz.prog w = .ok (.slice (some ⟨w.heap.size, 0, none⟩) 9 9) (w.alloc (.cells arr 94)) := by
  obtain ⟨i, hi, hz, hs, hb⟩ := PL.infoP PL.etyT.info
  have h := run_makeSlice (P := Tryz.prog) (w := w) 95 94 i _ Tryz.underlying95 hi hz .i64 .i64 9 9 (by decide) (by decide) (by rw [hs]; decide) (by rw [hb]; decide) (by decide)
  exact ⟨_, h⟩
theorem info_ps : (Tryz.prog.info? 32).map (·.size) = some 1 := by kernel_rfl
theorem info_int : (Tryz.prog.info? 3).map (·.size) = some 1 := by kernel_rfl
theorem eqF2 (a b c d : Int) (w : World) : (binOp .eql 74 (.agg #[.int .i64 a, .int .i64 b]) (.agg #[.int .i64 c, .int .i64 d])).run Tryz.prog w = .ok (.bool (decide (a = c) && decide (b = d))) w := by
  by_cases h0 : a = c
  · subst h0
    by_cases h1 : b = d
    · subst h1; go_simp
    · go_simp <;> simp_all
  · go_simp <;> simp_all
section
variable {w0 w w4 w5 w6 w7 : World} {l L : List Nat} {x a n m S R : Nat} {most : Int} {s s' : St}
theorem One.own4 (h : One w0 w l x a n S most s) (o1 o2 o3 o4 : Obj) : One w0 ((((w.alloc o1).alloc o2).alloc o3).alloc o4) ([w.heap.size + 1 + 1 + 1, w.heap.size + 1 + 1, w.heap.size + 1, w.heap.size] ++ l) x a n S most s := by
  have := (((h.own o1).own o2).own o3).own o4
  simpa using this
/-- What a step leaves of a machine: some state of it; our blocks as they were. -/
def StO (w0 w : World) (l : List Nat) (x a n S : Nat) (most : Int) (w' : World) : Prop := (∃ s', One w0 w' l x a n S most s') ∧ Kp l w w'
theorem One.fin (h0 : One w0 w l x a n S most s) (hb : Below w.heap.size w w4) (hk : Kp L w4 w5) (hL : ∀ g ∈ l, g ∈ L) (h5 : One w0 w5 L x a m S most s') (hb6 : Below w5.heap.size w5 w6) (ht : Turn (fun i => i = R) w6 w7) (hR : R ∈ L) (hlo : w.heap.size ≤ R) : StO w0 w l x a m S most w7 := by
  have e0 := h0.bl.size
  have e1 := hb.size
  have e2 := hk.1
  have e3 := hb6.size
  have e4 := ht.size
  refine ⟨⟨s', ((h5.later hb6).put ht (fun i hi => ⟨by rw [hi]; exact hR, by rw [hi]; omega⟩)).less hL⟩, by omega, fun g hg => ?_⟩
  obtain ⟨X, -, hX⟩ := h0
  have hg1 := (hX g hg).1
  exact (((ht.block g (by omega) (fun c => by have : g = R := c; omega)).trans (hb6.block g (by omega))).trans (hk.2 g (hL g hg))).trans (hb.block g hg1)
theorem One.ltl (h0 : One w0 w l x a n S most s) {g : Nat} (hg : g ∈ l) : g < w.heap.size := by
  obtain ⟨X, -, hX⟩ := h0
  exact (hX g hg).1
theorem Kp.put (h0 : One w0 w l x a n S most s) (hk : Kp l w w4) (ht : Turn (fun i => i = R) w4 w5) (hlo : w.heap.size ≤ R) : Kp l w w5 :=
  ⟨Nat.le_trans hk.1 ht.size, fun g hg => by
    have hg1 := h0.ltl hg
    exact (ht.block g (Nat.lt_of_lt_of_le hg1 hk.1) (fun c => by have : g = R := c; omega)).trans (hk.2 g hg)⟩
theorem Kp.below (h0 : One w0 w l x a n S most s) (hk : Kp l w w4) (hb : Below w4.heap.size w4 w5) : Kp l w w5 :=
  ⟨Nat.le_trans hk.1 hb.size, fun g hg => (hb.block g (Nat.lt_of_lt_of_le (h0.ltl hg) hk.1)).trans (hk.2 g hg)⟩
theorem One.fin3 (h0 : One w0 w l x a n S most s) (hk : Kp l w w6) (h5 : One w0 w6 L x a m S most s') (ht : Turn (fun i => i = R) w6 w7) (hL : ∀ g ∈ l, g ∈ L) (hR : R ∈ L) (hlo : w.heap.size ≤ R) : StO w0 w l x a m S most w7 :=
  ⟨⟨s', (h5.put ht (fun i hi => ⟨by rw [hi]; exact hR, by rw [hi]; exact Nat.le_trans h0.bl.size hlo⟩)).less hL⟩, hk.put h0 ht hlo⟩
theorem One.fin2y {wy : World} {Q : Nat} (h0 : One w0 w l x a n S most s) (hb : Below w.heap.size w w4) (hk : Kp L w4 w5) (hL : ∀ g ∈ l, g ∈ L) (h5 : One w0 w5 L x a m S most s') (hb6 : Below w5.heap.size w5 w6) (hy : Turn (fun i => i = Q) w6 wy) (ht : Turn (fun i => i = R) wy w7) (hQ : Q ∈ L) (hR : R ∈ L) (hqo : w.heap.size ≤ Q) (hlo : w.heap.size ≤ R) : StO w0 w l x a m S most w7 := by
  have e0 := h0.bl.size
  have e1 := hb.size
  have e2 := hk.1
  have e3 := hb6.size
  have e4 := hy.size
  have e5 := ht.size
  refine ⟨⟨s', (((h5.later hb6).put hy (fun i hi => ⟨by rw [hi]; exact hQ, by rw [hi]; omega⟩)).put ht (fun i hi => ⟨by rw [hi]; exact hR, by rw [hi]; omega⟩)).less hL⟩, by omega, fun g hg => ?_⟩
  obtain ⟨X, -, hX⟩ := h0
  have hg1 := (hX g hg).1
  exact ((((ht.block g (by omega) (fun c => by have : g = R := c; omega)).trans (hy.block g (by omega) (fun c => by have : g = Q := c; omega))).trans (hb6.block g (by omega))).trans (hk.2 g (hL g hg))).trans (hb.block g hg1)
end
end Go.Proofs.YtndjhedoandinaaGreatDoor.MM

namespace Go.Proofs.YtndjhedoandinaaGreatDoor.MM
open Go.RowKit Go.Maps

set_option maxHeartbeats 4000000 in
set_option maxRecDepth 100000 in
theorem step_x {w0 w : World} {l : List Nat} {x a n S : Nat} {most : Int} {s : St} (h : One w0 w l x a n S most s) {kd : Int} (h1 : kd ≠ 1) (h2 : kd ≠ 2) (h3 : kd ≠ 3) (h4 : kd ≠ 4) (h5 : kd ≠ 5) (h6 : kd ≠ 6) (h7 : kd ≠ 7) (h8 : kd ≠ 8) (h9 : kd ≠ 9) (h10 : kd ≠ 10) (h11 : kd ≠ 11) (h12 : kd ≠ 12) (so nn : Int) (va wd : Nat) (hf hl hk : Bool) :
    Calls Tryz.prog 9 #[.pointer (some ⟨x, 0, none⟩), .agg yZ, .agg #[.int .i64 kd, .int .i64 so, .int .i64 nn, .int .u64 (va : Nat), .int .u64 (wd : Nat), .bool hf, .bool hl, .bool hk]] w fun r w' => (∃ c b, r = .returned (.tuple #[.agg c, .bool b])) ∧ StO w0 w l x a (n + 1) S most w' := by
  have H0 := Hid.mk h
  have HW := Hid.mk (h.own4 (.cells #[.int .u64 0, .slice none 0 0, .int .i64 0, .slice none 0 0, .slice none 0 0, .bool false, .int .u64 0, .int .i64 0, .slice none 0 0] 34) (.cells #[.int .i64 kd, .int .i64 so, .int .i64 nn, .int .u64 (va : Nat), .int .u64 (wd : Nat), .bool hf, .bool hl, .bool hk] 40) (.cells #[.int .u64 0, .slice none 0 0, .int .i64 0, .slice none 0 0, .slice none 0 0, .bool false, .int .u64 0, .int .i64 0, .slice none 0 0] 34) (.cells #[.bool hf, .bool hl, .bool hk] 71))
  have gY := heap4_0 w (.cells #[.int .u64 0, .slice none 0 0, .int .i64 0, .slice none 0 0, .slice none 0 0, .bool false, .int .u64 0, .int .i64 0, .slice none 0 0] 34) (.cells #[.int .i64 kd, .int .i64 so, .int .i64 nn, .int .u64 (va : Nat), .int .u64 (wd : Nat), .bool hf, .bool hl, .bool hk] 40) (.cells #[.int .u64 0, .slice none 0 0, .int .i64 0, .slice none 0 0, .slice none 0 0, .bool false, .int .u64 0, .int .i64 0, .slice none 0 0] 34) (.cells #[.bool hf, .bool hl, .bool hk] 71)
  have gO := heap4_1 w (.cells #[.int .u64 0, .slice none 0 0, .int .i64 0, .slice none 0 0, .slice none 0 0, .bool false, .int .u64 0, .int .i64 0, .slice none 0 0] 34) (.cells #[.int .i64 kd, .int .i64 so, .int .i64 nn, .int .u64 (va : Nat), .int .u64 (wd : Nat), .bool hf, .bool hl, .bool hk] 40) (.cells #[.int .u64 0, .slice none 0 0, .int .i64 0, .slice none 0 0, .slice none 0 0, .bool false, .int .u64 0, .int .i64 0, .slice none 0 0] 34) (.cells #[.bool hf, .bool hl, .bool hk] 71)
  have gR := heap4_2 w (.cells #[.int .u64 0, .slice none 0 0, .int .i64 0, .slice none 0 0, .slice none 0 0, .bool false, .int .u64 0, .int .i64 0, .slice none 0 0] 34) (.cells #[.int .i64 kd, .int .i64 so, .int .i64 nn, .int .u64 (va : Nat), .int .u64 (wd : Nat), .bool hf, .bool hl, .bool hk] 40) (.cells #[.int .u64 0, .slice none 0 0, .int .i64 0, .slice none 0 0, .slice none 0 0, .bool false, .int .u64 0, .int .i64 0, .slice none 0 0] 34) (.cells #[.bool hf, .bool hl, .bool hk] 71)
  have gH := heap4_3 w (.cells #[.int .u64 0, .slice none 0 0, .int .i64 0, .slice none 0 0, .slice none 0 0, .bool false, .int .u64 0, .int .i64 0, .slice none 0 0] 34) (.cells #[.int .i64 kd, .int .i64 so, .int .i64 nn, .int .u64 (va : Nat), .int .u64 (wd : Nat), .bool hf, .bool hl, .bool hk] 40) (.cells #[.int .u64 0, .slice none 0 0, .int .i64 0, .slice none 0 0, .slice none 0 0, .bool false, .int .u64 0, .int .i64 0, .slice none 0 0] 34) (.cells #[.bool hf, .bool hl, .bool hk] 71)
  have hB := below4 w (.cells #[.int .u64 0, .slice none 0 0, .int .i64 0, .slice none 0 0, .slice none 0 0, .bool false, .int .u64 0, .int .i64 0, .slice none 0 0] 34) (.cells #[.int .i64 kd, .int .i64 so, .int .i64 nn, .int .u64 (va : Nat), .int .u64 (wd : Nat), .bool hf, .bool hl, .bool hk] 40) (.cells #[.int .u64 0, .slice none 0 0, .int .i64 0, .slice none 0 0, .slice none 0 0, .bool false, .int .u64 0, .int .i64 0, .slice none 0 0] 34) (.cells #[.bool hf, .bool hl, .bool hk] 71)
  clear h
  go_enter Tryz.func9, Tryz.ntmps9
  go_upto_region 2 with fail
  generalize (((w.alloc (.cells #[.int .u64 0, .slice none 0 0, .int .i64 0, .slice none 0 0, .slice none 0 0, .bool false, .int .u64 0, .int .i64 0, .slice none 0 0] 34)).alloc (.cells #[.int .i64 kd, .int .i64 so, .int .i64 nn, .int .u64 (va : Nat), .int .u64 (wd : Nat), .bool hf, .bool hl, .bool hk] 40)).alloc (.cells #[.int .u64 0, .slice none 0 0, .int .i64 0, .slice none 0 0, .slice none 0 0, .bool false, .int .u64 0, .int .i64 0, .slice none 0 0] 34)).alloc (.cells #[.bool hf, .bool hl, .bool hk] 71) = W at *
  have HB := Hid.mk hB
  clear hB
  obtain ⟨o0, o1, o2, o3, o4, o5, o6, o7⟩ := cells8p gO
  obtain ⟨c0, c1, c2, c3, c4, c5, c6, c7, c8⟩ := cells9 gY
  obtain ⟨t0, t1, t2⟩ := cells3 gH
  go_wp2_with
    first
    | (refine wpList_store_segTo rfl 34 _ _ rfl rfl (w.heap.size + 1 + 1) 0 _ #[.int .u64 0, .slice none 0 0, .int .i64 0, .slice none 0 0, .slice none 0 0, .bool false, .int .u64 0, .int .i64 0, .slice none 0 0] rfl rfl rfl 34 _ gR (show 0 + 9 ≤ 9 by decide) info_X9 (by simp [Value.oneCell']) #[.int .u64 0, .slice none 0 0, .int .i64 0, .slice none 0 0, .slice none 0 0, .bool false, .int .u64 0, .int .i64 0, .slice none 0 0] rfl ?_
       intro wz hrz htz)
    | fail
  refine bodyPost_ret (TR.res_row_tmp (p := 6) (u := 7) rfl _ _ (w.heap.size + 1 + 1) 34 _ _ _ rfl hrz Tryz.underlying34 rfl info_X9) rfl ⟨⟨_, _, rfl⟩, ?_⟩
  exact H0.out.fin HB.out (Kp.refl _ _) (fun g hg => by simp [hg]) (HW.out.mono (by omega)) (Below.refl _ _) htz (by simp) (by omega)

set_option maxHeartbeats 4000000 in
set_option maxRecDepth 100000 in
theorem step_2 {w0 w : World} {l : List Nat} {x a n S : Nat} {most : Int} {s : St} (h : One w0 w l x a n S most s) (so nn : Int) (va wd : Nat) (hf hl hk : Bool) (hva : va < 18446744073709551616) :
    Calls Tryz.prog 9 #[.pointer (some ⟨x, 0, none⟩), .agg yZ, .agg #[.int .i64 2, .int .i64 so, .int .i64 nn, .int .u64 (va : Nat), .int .u64 (wd : Nat), .bool hf, .bool hl, .bool hk]] w fun r w' => (∃ c b, r = .returned (.tuple #[.agg c, .bool b])) ∧ StO w0 w l x a (n + 1) S most w' := by
  have H0 := Hid.mk h
  have HW := Hid.mk (h.own4 (.cells #[.int .u64 0, .slice none 0 0, .int .i64 0, .slice none 0 0, .slice none 0 0, .bool false, .int .u64 0, .int .i64 0, .slice none 0 0] 34) (.cells #[.int .i64 2, .int .i64 so, .int .i64 nn, .int .u64 (va : Nat), .int .u64 (wd : Nat), .bool hf, .bool hl, .bool hk] 40) (.cells #[.int .u64 0, .slice none 0 0, .int .i64 0, .slice none 0 0, .slice none 0 0, .bool false, .int .u64 0, .int .i64 0, .slice none 0 0] 34) (.cells #[.bool hf, .bool hl, .bool hk] 71))
  have gY := heap4_0 w (.cells #[.int .u64 0, .slice none 0 0, .int .i64 0, .slice none 0 0, .slice none 0 0, .bool false, .int .u64 0, .int .i64 0, .slice none 0 0] 34) (.cells #[.int .i64 2, .int .i64 so, .int .i64 nn, .int .u64 (va : Nat), .int .u64 (wd : Nat), .bool hf, .bool hl, .bool hk] 40) (.cells #[.int .u64 0, .slice none 0 0, .int .i64 0, .slice none 0 0, .slice none 0 0, .bool false, .int .u64 0, .int .i64 0, .slice none 0 0] 34) (.cells #[.bool hf, .bool hl, .bool hk] 71)
  have gO := heap4_1 w (.cells #[.int .u64 0, .slice none 0 0, .int .i64 0, .slice none 0 0, .slice none 0 0, .bool false, .int .u64 0, .int .i64 0, .slice none 0 0] 34) (.cells #[.int .i64 2, .int .i64 so, .int .i64 nn, .int .u64 (va : Nat), .int .u64 (wd : Nat), .bool hf, .bool hl, .bool hk] 40) (.cells #[.int .u64 0, .slice none 0 0, .int .i64 0, .slice none 0 0, .slice none 0 0, .bool false, .int .u64 0, .int .i64 0, .slice none 0 0] 34) (.cells #[.bool hf, .bool hl, .bool hk] 71)
  have gR := heap4_2 w (.cells #[.int .u64 0, .slice none 0 0, .int .i64 0, .slice none 0 0, .slice none 0 0, .bool false, .int .u64 0, .int .i64 0, .slice none 0 0] 34) (.cells #[.int .i64 2, .int .i64 so, .int .i64 nn, .int .u64 (va : Nat), .int .u64 (wd : Nat), .bool hf, .bool hl, .bool hk] 40) (.cells #[.int .u64 0, .slice none 0 0, .int .i64 0, .slice none 0 0, .slice none 0 0, .bool false, .int .u64 0, .int .i64 0, .slice none 0 0] 34) (.cells #[.bool hf, .bool hl, .bool hk] 71)
  have gH := heap4_3 w (.cells #[.int .u64 0, .slice none 0 0, .int .i64 0, .slice none 0 0, .slice none 0 0, .bool false, .int .u64 0, .int .i64 0, .slice none 0 0] 34) (.cells #[.int .i64 2, .int .i64 so, .int .i64 nn, .int .u64 (va : Nat), .int .u64 (wd : Nat), .bool hf, .bool hl, .bool hk] 40) (.cells #[.int .u64 0, .slice none 0 0, .int .i64 0, .slice none 0 0, .slice none 0 0, .bool false, .int .u64 0, .int .i64 0, .slice none 0 0] 34) (.cells #[.bool hf, .bool hl, .bool hk] 71)
  have hB := below4 w (.cells #[.int .u64 0, .slice none 0 0, .int .i64 0, .slice none 0 0, .slice none 0 0, .bool false, .int .u64 0, .int .i64 0, .slice none 0 0] 34) (.cells #[.int .i64 2, .int .i64 so, .int .i64 nn, .int .u64 (va : Nat), .int .u64 (wd : Nat), .bool hf, .bool hl, .bool hk] 40) (.cells #[.int .u64 0, .slice none 0 0, .int .i64 0, .slice none 0 0, .slice none 0 0, .bool false, .int .u64 0, .int .i64 0, .slice none 0 0] 34) (.cells #[.bool hf, .bool hl, .bool hk] 71)
  clear h
  go_enter Tryz.func9, Tryz.ntmps9
  go_upto_region 2 with fail
  generalize (((w.alloc (.cells #[.int .u64 0, .slice none 0 0, .int .i64 0, .slice none 0 0, .slice none 0 0, .bool false, .int .u64 0, .int .i64 0, .slice none 0 0] 34)).alloc (.cells #[.int .i64 2, .int .i64 so, .int .i64 nn, .int .u64 (va : Nat), .int .u64 (wd : Nat), .bool hf, .bool hl, .bool hk] 40)).alloc (.cells #[.int .u64 0, .slice none 0 0, .int .i64 0, .slice none 0 0, .slice none 0 0, .bool false, .int .u64 0, .int .i64 0, .slice none 0 0] 34)).alloc (.cells #[.bool hf, .bool hl, .bool hk] 71) = W at *
  have HB := Hid.mk hB
  clear hB
  obtain ⟨o0, o1, o2, o3, o4, o5, o6, o7⟩ := cells8p gO
  obtain ⟨c0, c1, c2, c3, c4, c5, c6, c7, c8⟩ := cells9 gY
  obtain ⟨t0, t1, t2⟩ := cells3 gH
  go_wp2_with fail
  refine (HW.out.does (fun X hM => (guess_c hM va hva ⟨hf, hl, hk⟩).mono (fun r w' q => And.intro q.1 (And.intro q.2.1 q.2.2.1)))).mono ?_
  rintro e w5 ⟨rfl, h5, hk5⟩
  replace gY := hk5.row (by simp) gY
  replace gO := hk5.row (by simp) gO
  replace gR := hk5.row (by simp) gR
  replace gH := hk5.row (by simp) gH
  have H5 := Hid.mk (And.intro h5 hk5)
  clear h5 hk5 HW o0 o1 o2 o3 o4 o5 o6 o7 c0 c1 c2 c3 c4 c5 c6 c7 c8 t0 t1 t2
  obtain ⟨o0, o1, o2, o3, o4, o5, o6, o7⟩ := cells8p gO
  obtain ⟨c0, c1, c2, c3, c4, c5, c6, c7, c8⟩ := cells9 gY
  obtain ⟨t0, t1, t2⟩ := cells3 gH
  go_wp2_with fail
  refine (zguess va hf hl hk w5).mono ?_
  rintro e w6 ⟨rfl, hb6⟩
  replace gY := block_later hb6 gY
  replace gO := block_later hb6 gO
  replace gR := block_later hb6 gR
  replace gH := block_later hb6 gH
  have HB6 := Hid.mk hb6
  clear hb6 o0 o1 o2 o3 o4 o5 o6 o7 c0 c1 c2 c3 c4 c5 c6 c7 c8 t0 t1 t2
  go_wp2_with
    first
    | (refine wpList_store_segTo rfl 34 _ _ rfl rfl (w.heap.size + 1 + 1) 0 _ #[.int .u64 0, .slice none 0 0, .int .i64 0, .slice none 0 0, .slice none 0 0, .bool false, .int .u64 0, .int .i64 0, .slice none 0 0] rfl rfl rfl 34 _ gR (show 0 + 9 ≤ 9 by decide) info_X9 (by simp [Value.oneCell']) #[.int .u64 0, .slice none 0 0, .int .i64 0, .slice none 0 0, .slice none 0 0, .bool false, .int .u64 0, .int .i64 0, .slice none 0 0] rfl ?_
       intro wz hrz htz)
    | fail
  refine bodyPost_ret (TR.res_row_tmp (p := 6) (u := 7) rfl _ _ (w.heap.size + 1 + 1) 34 _ _ _ rfl hrz Tryz.underlying34 rfl info_X9) rfl ⟨⟨_, _, rfl⟩, ?_⟩
  exact H0.out.fin HB.out H5.out.2 (fun g hg => by simp [hg]) (H5.out.1.mono (by omega)) HB6.out htz (by simp) (by omega)

set_option maxHeartbeats 4000000 in
set_option maxRecDepth 100000 in
theorem step_6 {w0 w : World} {l : List Nat} {x a n S : Nat} {most : Int} {s : St} (h : One w0 w l x a n S most s) (so nn : Int) (va wd : Nat) (hf hl hk : Bool) (hva : va < 18446744073709551616) :
    Calls Tryz.prog 9 #[.pointer (some ⟨x, 0, none⟩), .agg yZ, .agg #[.int .i64 6, .int .i64 so, .int .i64 nn, .int .u64 (va : Nat), .int .u64 (wd : Nat), .bool hf, .bool hl, .bool hk]] w fun r w' => (∃ c b, r = .returned (.tuple #[.agg c, .bool b])) ∧ StO w0 w l x a (n + 1) S most w' := by
  have H0 := Hid.mk h
  have HW := Hid.mk (h.own4 (.cells #[.int .u64 0, .slice none 0 0, .int .i64 0, .slice none 0 0, .slice none 0 0, .bool false, .int .u64 0, .int .i64 0, .slice none 0 0] 34) (.cells #[.int .i64 6, .int .i64 so, .int .i64 nn, .int .u64 (va : Nat), .int .u64 (wd : Nat), .bool hf, .bool hl, .bool hk] 40) (.cells #[.int .u64 0, .slice none 0 0, .int .i64 0, .slice none 0 0, .slice none 0 0, .bool false, .int .u64 0, .int .i64 0, .slice none 0 0] 34) (.cells #[.bool hf, .bool hl, .bool hk] 71))
  have gY := heap4_0 w (.cells #[.int .u64 0, .slice none 0 0, .int .i64 0, .slice none 0 0, .slice none 0 0, .bool false, .int .u64 0, .int .i64 0, .slice none 0 0] 34) (.cells #[.int .i64 6, .int .i64 so, .int .i64 nn, .int .u64 (va : Nat), .int .u64 (wd : Nat), .bool hf, .bool hl, .bool hk] 40) (.cells #[.int .u64 0, .slice none 0 0, .int .i64 0, .slice none 0 0, .slice none 0 0, .bool false, .int .u64 0, .int .i64 0, .slice none 0 0] 34) (.cells #[.bool hf, .bool hl, .bool hk] 71)
  have gO := heap4_1 w (.cells #[.int .u64 0, .slice none 0 0, .int .i64 0, .slice none 0 0, .slice none 0 0, .bool false, .int .u64 0, .int .i64 0, .slice none 0 0] 34) (.cells #[.int .i64 6, .int .i64 so, .int .i64 nn, .int .u64 (va : Nat), .int .u64 (wd : Nat), .bool hf, .bool hl, .bool hk] 40) (.cells #[.int .u64 0, .slice none 0 0, .int .i64 0, .slice none 0 0, .slice none 0 0, .bool false, .int .u64 0, .int .i64 0, .slice none 0 0] 34) (.cells #[.bool hf, .bool hl, .bool hk] 71)
  have gR := heap4_2 w (.cells #[.int .u64 0, .slice none 0 0, .int .i64 0, .slice none 0 0, .slice none 0 0, .bool false, .int .u64 0, .int .i64 0, .slice none 0 0] 34) (.cells #[.int .i64 6, .int .i64 so, .int .i64 nn, .int .u64 (va : Nat), .int .u64 (wd : Nat), .bool hf, .bool hl, .bool hk] 40) (.cells #[.int .u64 0, .slice none 0 0, .int .i64 0, .slice none 0 0, .slice none 0 0, .bool false, .int .u64 0, .int .i64 0, .slice none 0 0] 34) (.cells #[.bool hf, .bool hl, .bool hk] 71)
  have gH := heap4_3 w (.cells #[.int .u64 0, .slice none 0 0, .int .i64 0, .slice none 0 0, .slice none 0 0, .bool false, .int .u64 0, .int .i64 0, .slice none 0 0] 34) (.cells #[.int .i64 6, .int .i64 so, .int .i64 nn, .int .u64 (va : Nat), .int .u64 (wd : Nat), .bool hf, .bool hl, .bool hk] 40) (.cells #[.int .u64 0, .slice none 0 0, .int .i64 0, .slice none 0 0, .slice none 0 0, .bool false, .int .u64 0, .int .i64 0, .slice none 0 0] 34) (.cells #[.bool hf, .bool hl, .bool hk] 71)
  have hB := below4 w (.cells #[.int .u64 0, .slice none 0 0, .int .i64 0, .slice none 0 0, .slice none 0 0, .bool false, .int .u64 0, .int .i64 0, .slice none 0 0] 34) (.cells #[.int .i64 6, .int .i64 so, .int .i64 nn, .int .u64 (va : Nat), .int .u64 (wd : Nat), .bool hf, .bool hl, .bool hk] 40) (.cells #[.int .u64 0, .slice none 0 0, .int .i64 0, .slice none 0 0, .slice none 0 0, .bool false, .int .u64 0, .int .i64 0, .slice none 0 0] 34) (.cells #[.bool hf, .bool hl, .bool hk] 71)
  clear h
  go_enter Tryz.func9, Tryz.ntmps9
  go_upto_region 2 with fail
  generalize (((w.alloc (.cells #[.int .u64 0, .slice none 0 0, .int .i64 0, .slice none 0 0, .slice none 0 0, .bool false, .int .u64 0, .int .i64 0, .slice none 0 0] 34)).alloc (.cells #[.int .i64 6, .int .i64 so, .int .i64 nn, .int .u64 (va : Nat), .int .u64 (wd : Nat), .bool hf, .bool hl, .bool hk] 40)).alloc (.cells #[.int .u64 0, .slice none 0 0, .int .i64 0, .slice none 0 0, .slice none 0 0, .bool false, .int .u64 0, .int .i64 0, .slice none 0 0] 34)).alloc (.cells #[.bool hf, .bool hl, .bool hk] 71) = W at *
  have HB := Hid.mk hB
  clear hB
  obtain ⟨o0, o1, o2, o3, o4, o5, o6, o7⟩ := cells8p gO
  obtain ⟨c0, c1, c2, c3, c4, c5, c6, c7, c8⟩ := cells9 gY
  obtain ⟨t0, t1, t2⟩ := cells3 gH
  go_wp2_with fail
  refine (HW.out.does (fun X hM => flushVa_c hM nn va hva)).mono ?_
  rintro e w5 ⟨rfl, h5, hk5⟩
  replace gY := hk5.row (by simp) gY
  replace gO := hk5.row (by simp) gO
  replace gR := hk5.row (by simp) gR
  replace gH := hk5.row (by simp) gH
  have H5 := Hid.mk (And.intro h5 hk5)
  clear h5 hk5 HW o0 o1 o2 o3 o4 o5 o6 o7 c0 c1 c2 c3 c4 c5 c6 c7 c8 t0 t1 t2
  obtain ⟨o0, o1, o2, o3, o4, o5, o6, o7⟩ := cells8p gO
  obtain ⟨c0, c1, c2, c3, c4, c5, c6, c7, c8⟩ := cells9 gY
  obtain ⟨t0, t1, t2⟩ := cells3 gH
  go_wp2_with fail
  refine (zflush nn true va w5).mono ?_
  rintro e w6 ⟨rfl, hb6⟩
  replace gY := block_later hb6 gY
  replace gO := block_later hb6 gO
  replace gR := block_later hb6 gR
  replace gH := block_later hb6 gH
  have HB6 := Hid.mk hb6
  clear hb6 o0 o1 o2 o3 o4 o5 o6 o7 c0 c1 c2 c3 c4 c5 c6 c7 c8 t0 t1 t2
  go_wp2_with
    first
    | (refine wpList_store_segTo rfl 34 _ _ rfl rfl (w.heap.size + 1 + 1) 0 _ #[.int .u64 0, .slice none 0 0, .int .i64 0, .slice none 0 0, .slice none 0 0, .bool false, .int .u64 0, .int .i64 0, .slice none 0 0] rfl rfl rfl 34 _ gR (show 0 + 9 ≤ 9 by decide) info_X9 (by simp [Value.oneCell']) #[.int .u64 0, .slice none 0 0, .int .i64 0, .slice none 0 0, .slice none 0 0, .bool false, .int .u64 0, .int .i64 0, .slice none 0 0] rfl ?_
       intro wz hrz htz)
    | fail
  refine bodyPost_ret (TR.res_row_tmp (p := 6) (u := 7) rfl _ _ (w.heap.size + 1 + 1) 34 _ _ _ rfl hrz Tryz.underlying34 rfl info_X9) rfl ⟨⟨_, _, rfl⟩, ?_⟩
  exact H0.out.fin HB.out H5.out.2 (fun g hg => by simp [hg]) (H5.out.1.mono (by omega)) HB6.out htz (by simp) (by omega)

set_option maxHeartbeats 4000000 in
set_option maxRecDepth 100000 in
theorem step_8 {w0 w : World} {l : List Nat} {x a n S : Nat} {most : Int} {s : St} (h : One w0 w l x a n S most s) (so nn : Int) (va wd : Nat) (hf hl hk : Bool) :
    Calls Tryz.prog 9 #[.pointer (some ⟨x, 0, none⟩), .agg yZ, .agg #[.int .i64 8, .int .i64 so, .int .i64 nn, .int .u64 (va : Nat), .int .u64 (wd : Nat), .bool hf, .bool hl, .bool hk]] w fun r w' => (∃ c b, r = .returned (.tuple #[.agg c, .bool b])) ∧ StO w0 w l x a (n + 1) S most w' := by
  have H0 := Hid.mk h
  have HW := Hid.mk (h.own4 (.cells #[.int .u64 0, .slice none 0 0, .int .i64 0, .slice none 0 0, .slice none 0 0, .bool false, .int .u64 0, .int .i64 0, .slice none 0 0] 34) (.cells #[.int .i64 8, .int .i64 so, .int .i64 nn, .int .u64 (va : Nat), .int .u64 (wd : Nat), .bool hf, .bool hl, .bool hk] 40) (.cells #[.int .u64 0, .slice none 0 0, .int .i64 0, .slice none 0 0, .slice none 0 0, .bool false, .int .u64 0, .int .i64 0, .slice none 0 0] 34) (.cells #[.bool hf, .bool hl, .bool hk] 71))
  have gY := heap4_0 w (.cells #[.int .u64 0, .slice none 0 0, .int .i64 0, .slice none 0 0, .slice none 0 0, .bool false, .int .u64 0, .int .i64 0, .slice none 0 0] 34) (.cells #[.int .i64 8, .int .i64 so, .int .i64 nn, .int .u64 (va : Nat), .int .u64 (wd : Nat), .bool hf, .bool hl, .bool hk] 40) (.cells #[.int .u64 0, .slice none 0 0, .int .i64 0, .slice none 0 0, .slice none 0 0, .bool false, .int .u64 0, .int .i64 0, .slice none 0 0] 34) (.cells #[.bool hf, .bool hl, .bool hk] 71)
  have gO := heap4_1 w (.cells #[.int .u64 0, .slice none 0 0, .int .i64 0, .slice none 0 0, .slice none 0 0, .bool false, .int .u64 0, .int .i64 0, .slice none 0 0] 34) (.cells #[.int .i64 8, .int .i64 so, .int .i64 nn, .int .u64 (va : Nat), .int .u64 (wd : Nat), .bool hf, .bool hl, .bool hk] 40) (.cells #[.int .u64 0, .slice none 0 0, .int .i64 0, .slice none 0 0, .slice none 0 0, .bool false, .int .u64 0, .int .i64 0, .slice none 0 0] 34) (.cells #[.bool hf, .bool hl, .bool hk] 71)
  have gR := heap4_2 w (.cells #[.int .u64 0, .slice none 0 0, .int .i64 0, .slice none 0 0, .slice none 0 0, .bool false, .int .u64 0, .int .i64 0, .slice none 0 0] 34) (.cells #[.int .i64 8, .int .i64 so, .int .i64 nn, .int .u64 (va : Nat), .int .u64 (wd : Nat), .bool hf, .bool hl, .bool hk] 40) (.cells #[.int .u64 0, .slice none 0 0, .int .i64 0, .slice none 0 0, .slice none 0 0, .bool false, .int .u64 0, .int .i64 0, .slice none 0 0] 34) (.cells #[.bool hf, .bool hl, .bool hk] 71)
  have gH := heap4_3 w (.cells #[.int .u64 0, .slice none 0 0, .int .i64 0, .slice none 0 0, .slice none 0 0, .bool false, .int .u64 0, .int .i64 0, .slice none 0 0] 34) (.cells #[.int .i64 8, .int .i64 so, .int .i64 nn, .int .u64 (va : Nat), .int .u64 (wd : Nat), .bool hf, .bool hl, .bool hk] 40) (.cells #[.int .u64 0, .slice none 0 0, .int .i64 0, .slice none 0 0, .slice none 0 0, .bool false, .int .u64 0, .int .i64 0, .slice none 0 0] 34) (.cells #[.bool hf, .bool hl, .bool hk] 71)
  have hB := below4 w (.cells #[.int .u64 0, .slice none 0 0, .int .i64 0, .slice none 0 0, .slice none 0 0, .bool false, .int .u64 0, .int .i64 0, .slice none 0 0] 34) (.cells #[.int .i64 8, .int .i64 so, .int .i64 nn, .int .u64 (va : Nat), .int .u64 (wd : Nat), .bool hf, .bool hl, .bool hk] 40) (.cells #[.int .u64 0, .slice none 0 0, .int .i64 0, .slice none 0 0, .slice none 0 0, .bool false, .int .u64 0, .int .i64 0, .slice none 0 0] 34) (.cells #[.bool hf, .bool hl, .bool hk] 71)
  clear h
  go_enter Tryz.func9, Tryz.ntmps9
  go_upto_region 2 with fail
  generalize (((w.alloc (.cells #[.int .u64 0, .slice none 0 0, .int .i64 0, .slice none 0 0, .slice none 0 0, .bool false, .int .u64 0, .int .i64 0, .slice none 0 0] 34)).alloc (.cells #[.int .i64 8, .int .i64 so, .int .i64 nn, .int .u64 (va : Nat), .int .u64 (wd : Nat), .bool hf, .bool hl, .bool hk] 40)).alloc (.cells #[.int .u64 0, .slice none 0 0, .int .i64 0, .slice none 0 0, .slice none 0 0, .bool false, .int .u64 0, .int .i64 0, .slice none 0 0] 34)).alloc (.cells #[.bool hf, .bool hl, .bool hk] 71) = W at *
  have HB := Hid.mk hB
  clear hB
  obtain ⟨o0, o1, o2, o3, o4, o5, o6, o7⟩ := cells8p gO
  obtain ⟨c0, c1, c2, c3, c4, c5, c6, c7, c8⟩ := cells9 gY
  obtain ⟨t0, t1, t2⟩ := cells3 gH
  go_wp2_with fail
  refine (HW.out.does (fun X hM => flushAll_c hM)).mono ?_
  rintro e w5 ⟨rfl, h5, hk5⟩
  replace gY := hk5.row (by simp) gY
  replace gO := hk5.row (by simp) gO
  replace gR := hk5.row (by simp) gR
  replace gH := hk5.row (by simp) gH
  have H5 := Hid.mk (And.intro h5 hk5)
  clear h5 hk5 HW o0 o1 o2 o3 o4 o5 o6 o7 c0 c1 c2 c3 c4 c5 c6 c7 c8 t0 t1 t2
  obtain ⟨o0, o1, o2, o3, o4, o5, o6, o7⟩ := cells8p gO
  obtain ⟨c0, c1, c2, c3, c4, c5, c6, c7, c8⟩ := cells9 gY
  obtain ⟨t0, t1, t2⟩ := cells3 gH
  go_wp2_with fail
  refine (zflush (-1) false 0 w5).mono ?_
  rintro e w6 ⟨rfl, hb6⟩
  replace gY := block_later hb6 gY
  replace gO := block_later hb6 gO
  replace gR := block_later hb6 gR
  replace gH := block_later hb6 gH
  have HB6 := Hid.mk hb6
  clear hb6 o0 o1 o2 o3 o4 o5 o6 o7 c0 c1 c2 c3 c4 c5 c6 c7 c8 t0 t1 t2
  go_wp2_with
    first
    | (refine wpList_store_segTo rfl 34 _ _ rfl rfl (w.heap.size + 1 + 1) 0 _ #[.int .u64 0, .slice none 0 0, .int .i64 0, .slice none 0 0, .slice none 0 0, .bool false, .int .u64 0, .int .i64 0, .slice none 0 0] rfl rfl rfl 34 _ gR (show 0 + 9 ≤ 9 by decide) info_X9 (by simp [Value.oneCell']) #[.int .u64 0, .slice none 0 0, .int .i64 0, .slice none 0 0, .slice none 0 0, .bool false, .int .u64 0, .int .i64 0, .slice none 0 0] rfl ?_
       intro wz hrz htz)
    | fail
  refine bodyPost_ret (TR.res_row_tmp (p := 6) (u := 7) rfl _ _ (w.heap.size + 1 + 1) 34 _ _ _ rfl hrz Tryz.underlying34 rfl info_X9) rfl ⟨⟨_, _, rfl⟩, ?_⟩
  exact H0.out.fin HB.out H5.out.2 (fun g hg => by simp [hg]) (H5.out.1.mono (by omega)) HB6.out htz (by simp) (by omega)

set_option maxHeartbeats 4000000 in
set_option maxRecDepth 100000 in
theorem step_7a {w0 w : World} {l : List Nat} {x a n S : Nat} {most : Int} {s : St} (h : One w0 w l x a n S most s) (so nn : Int) (va wd : Nat) (hf hl hk : Bool) (hN : nn < 0) :
    Calls Tryz.prog 9 #[.pointer (some ⟨x, 0, none⟩), .agg yZ, .agg #[.int .i64 7, .int .i64 so, .int .i64 nn, .int .u64 (va : Nat), .int .u64 (wd : Nat), .bool hf, .bool hl, .bool hk]] w fun r w' => (∃ c b, r = .returned (.tuple #[.agg c, .bool b])) ∧ StO w0 w l x a (n + 1) S most w' := by
  have H0 := Hid.mk h
  have HW := Hid.mk (h.own4 (.cells #[.int .u64 0, .slice none 0 0, .int .i64 0, .slice none 0 0, .slice none 0 0, .bool false, .int .u64 0, .int .i64 0, .slice none 0 0] 34) (.cells #[.int .i64 7, .int .i64 so, .int .i64 nn, .int .u64 (va : Nat), .int .u64 (wd : Nat), .bool hf, .bool hl, .bool hk] 40) (.cells #[.int .u64 0, .slice none 0 0, .int .i64 0, .slice none 0 0, .slice none 0 0, .bool false, .int .u64 0, .int .i64 0, .slice none 0 0] 34) (.cells #[.bool hf, .bool hl, .bool hk] 71))
  have gY := heap4_0 w (.cells #[.int .u64 0, .slice none 0 0, .int .i64 0, .slice none 0 0, .slice none 0 0, .bool false, .int .u64 0, .int .i64 0, .slice none 0 0] 34) (.cells #[.int .i64 7, .int .i64 so, .int .i64 nn, .int .u64 (va : Nat), .int .u64 (wd : Nat), .bool hf, .bool hl, .bool hk] 40) (.cells #[.int .u64 0, .slice none 0 0, .int .i64 0, .slice none 0 0, .slice none 0 0, .bool false, .int .u64 0, .int .i64 0, .slice none 0 0] 34) (.cells #[.bool hf, .bool hl, .bool hk] 71)
  have gO := heap4_1 w (.cells #[.int .u64 0, .slice none 0 0, .int .i64 0, .slice none 0 0, .slice none 0 0, .bool false, .int .u64 0, .int .i64 0, .slice none 0 0] 34) (.cells #[.int .i64 7, .int .i64 so, .int .i64 nn, .int .u64 (va : Nat), .int .u64 (wd : Nat), .bool hf, .bool hl, .bool hk] 40) (.cells #[.int .u64 0, .slice none 0 0, .int .i64 0, .slice none 0 0, .slice none 0 0, .bool false, .int .u64 0, .int .i64 0, .slice none 0 0] 34) (.cells #[.bool hf, .bool hl, .bool hk] 71)
  have gR := heap4_2 w (.cells #[.int .u64 0, .slice none 0 0, .int .i64 0, .slice none 0 0, .slice none 0 0, .bool false, .int .u64 0, .int .i64 0, .slice none 0 0] 34) (.cells #[.int .i64 7, .int .i64 so, .int .i64 nn, .int .u64 (va : Nat), .int .u64 (wd : Nat), .bool hf, .bool hl, .bool hk] 40) (.cells #[.int .u64 0, .slice none 0 0, .int .i64 0, .slice none 0 0, .slice none 0 0, .bool false, .int .u64 0, .int .i64 0, .slice none 0 0] 34) (.cells #[.bool hf, .bool hl, .bool hk] 71)
  have gH := heap4_3 w (.cells #[.int .u64 0, .slice none 0 0, .int .i64 0, .slice none 0 0, .slice none 0 0, .bool false, .int .u64 0, .int .i64 0, .slice none 0 0] 34) (.cells #[.int .i64 7, .int .i64 so, .int .i64 nn, .int .u64 (va : Nat), .int .u64 (wd : Nat), .bool hf, .bool hl, .bool hk] 40) (.cells #[.int .u64 0, .slice none 0 0, .int .i64 0, .slice none 0 0, .slice none 0 0, .bool false, .int .u64 0, .int .i64 0, .slice none 0 0] 34) (.cells #[.bool hf, .bool hl, .bool hk] 71)
  have hB := below4 w (.cells #[.int .u64 0, .slice none 0 0, .int .i64 0, .slice none 0 0, .slice none 0 0, .bool false, .int .u64 0, .int .i64 0, .slice none 0 0] 34) (.cells #[.int .i64 7, .int .i64 so, .int .i64 nn, .int .u64 (va : Nat), .int .u64 (wd : Nat), .bool hf, .bool hl, .bool hk] 40) (.cells #[.int .u64 0, .slice none 0 0, .int .i64 0, .slice none 0 0, .slice none 0 0, .bool false, .int .u64 0, .int .i64 0, .slice none 0 0] 34) (.cells #[.bool hf, .bool hl, .bool hk] 71)
  clear h
  go_enter Tryz.func9, Tryz.ntmps9
  go_upto_region 2 with fail
  generalize (((w.alloc (.cells #[.int .u64 0, .slice none 0 0, .int .i64 0, .slice none 0 0, .slice none 0 0, .bool false, .int .u64 0, .int .i64 0, .slice none 0 0] 34)).alloc (.cells #[.int .i64 7, .int .i64 so, .int .i64 nn, .int .u64 (va : Nat), .int .u64 (wd : Nat), .bool hf, .bool hl, .bool hk] 40)).alloc (.cells #[.int .u64 0, .slice none 0 0, .int .i64 0, .slice none 0 0, .slice none 0 0, .bool false, .int .u64 0, .int .i64 0, .slice none 0 0] 34)).alloc (.cells #[.bool hf, .bool hl, .bool hk] 71) = W at *
  have HB := Hid.mk hB
  clear hB
  obtain ⟨o0, o1, o2, o3, o4, o5, o6, o7⟩ := cells8p gO
  obtain ⟨c0, c1, c2, c3, c4, c5, c6, c7, c8⟩ := cells9 gY
  obtain ⟨t0, t1, t2⟩ := cells3 gH
  go_wp2_with fail
  refine (HW.out.does (fun X hM => flushAsid_c hM nn)).mono ?_
  rintro e w5 ⟨rfl, h5, hk5⟩
  replace gY := hk5.row (by simp) gY
  replace gO := hk5.row (by simp) gO
  replace gR := hk5.row (by simp) gR
  replace gH := hk5.row (by simp) gH
  have H5 := Hid.mk (And.intro h5 hk5)
  clear h5 hk5 HW o0 o1 o2 o3 o4 o5 o6 o7 c0 c1 c2 c3 c4 c5 c6 c7 c8 t0 t1 t2
  obtain ⟨o0, o1, o2, o3, o4, o5, o6, o7⟩ := cells8p gO
  obtain ⟨c0, c1, c2, c3, c4, c5, c6, c7, c8⟩ := cells9 gY
  obtain ⟨t0, t1, t2⟩ := cells3 gH
  go_wp2_with
    first
    | (refine wpList_store_segTo rfl 34 _ _ rfl rfl (w.heap.size + 1 + 1) 0 _ #[.int .u64 0, .slice none 0 0, .int .i64 0, .slice none 0 0, .slice none 0 0, .bool false, .int .u64 0, .int .i64 0, .slice none 0 0] rfl rfl rfl 34 _ gR (show 0 + 9 ≤ 9 by decide) info_X9 (by simp [Value.oneCell']) #[.int .u64 0, .slice none 0 0, .int .i64 0, .slice none 0 0, .slice none 0 0, .bool false, .int .u64 0, .int .i64 0, .slice none 0 0] rfl ?_
       intro wz hrz htz)
    | fail
  refine bodyPost_ret (TR.res_row_tmp (p := 6) (u := 7) rfl _ _ (w.heap.size + 1 + 1) 34 _ _ _ rfl hrz Tryz.underlying34 rfl info_X9) rfl ⟨⟨_, _, rfl⟩, ?_⟩
  exact H0.out.fin HB.out H5.out.2 (fun g hg => by simp [hg]) (H5.out.1.mono (by omega)) (Below.refl _ _) htz (by simp) (by omega)

set_option maxHeartbeats 4000000 in
set_option maxRecDepth 100000 in
theorem step_7b {w0 w : World} {l : List Nat} {x a n S : Nat} {most : Int} {s : St} (h : One w0 w l x a n S most s) (so nn : Int) (va wd : Nat) (hf hl hk : Bool) (hN : ¬ nn < 0) :
    Calls Tryz.prog 9 #[.pointer (some ⟨x, 0, none⟩), .agg yZ, .agg #[.int .i64 7, .int .i64 so, .int .i64 nn, .int .u64 (va : Nat), .int .u64 (wd : Nat), .bool hf, .bool hl, .bool hk]] w fun r w' => (∃ c b, r = .returned (.tuple #[.agg c, .bool b])) ∧ StO w0 w l x a (n + 1) S most w' := by
  have H0 := Hid.mk h
  have HW := Hid.mk (h.own4 (.cells #[.int .u64 0, .slice none 0 0, .int .i64 0, .slice none 0 0, .slice none 0 0, .bool false, .int .u64 0, .int .i64 0, .slice none 0 0] 34) (.cells #[.int .i64 7, .int .i64 so, .int .i64 nn, .int .u64 (va : Nat), .int .u64 (wd : Nat), .bool hf, .bool hl, .bool hk] 40) (.cells #[.int .u64 0, .slice none 0 0, .int .i64 0, .slice none 0 0, .slice none 0 0, .bool false, .int .u64 0, .int .i64 0, .slice none 0 0] 34) (.cells #[.bool hf, .bool hl, .bool hk] 71))
  have gY := heap4_0 w (.cells #[.int .u64 0, .slice none 0 0, .int .i64 0, .slice none 0 0, .slice none 0 0, .bool false, .int .u64 0, .int .i64 0, .slice none 0 0] 34) (.cells #[.int .i64 7, .int .i64 so, .int .i64 nn, .int .u64 (va : Nat), .int .u64 (wd : Nat), .bool hf, .bool hl, .bool hk] 40) (.cells #[.int .u64 0, .slice none 0 0, .int .i64 0, .slice none 0 0, .slice none 0 0, .bool false, .int .u64 0, .int .i64 0, .slice none 0 0] 34) (.cells #[.bool hf, .bool hl, .bool hk] 71)
  have gO := heap4_1 w (.cells #[.int .u64 0, .slice none 0 0, .int .i64 0, .slice none 0 0, .slice none 0 0, .bool false, .int .u64 0, .int .i64 0, .slice none 0 0] 34) (.cells #[.int .i64 7, .int .i64 so, .int .i64 nn, .int .u64 (va : Nat), .int .u64 (wd : Nat), .bool hf, .bool hl, .bool hk] 40) (.cells #[.int .u64 0, .slice none 0 0, .int .i64 0, .slice none 0 0, .slice none 0 0, .bool false, .int .u64 0, .int .i64 0, .slice none 0 0] 34) (.cells #[.bool hf, .bool hl, .bool hk] 71)
  have gR := heap4_2 w (.cells #[.int .u64 0, .slice none 0 0, .int .i64 0, .slice none 0 0, .slice none 0 0, .bool false, .int .u64 0, .int .i64 0, .slice none 0 0] 34) (.cells #[.int .i64 7, .int .i64 so, .int .i64 nn, .int .u64 (va : Nat), .int .u64 (wd : Nat), .bool hf, .bool hl, .bool hk] 40) (.cells #[.int .u64 0, .slice none 0 0, .int .i64 0, .slice none 0 0, .slice none 0 0, .bool false, .int .u64 0, .int .i64 0, .slice none 0 0] 34) (.cells #[.bool hf, .bool hl, .bool hk] 71)
  have gH := heap4_3 w (.cells #[.int .u64 0, .slice none 0 0, .int .i64 0, .slice none 0 0, .slice none 0 0, .bool false, .int .u64 0, .int .i64 0, .slice none 0 0] 34) (.cells #[.int .i64 7, .int .i64 so, .int .i64 nn, .int .u64 (va : Nat), .int .u64 (wd : Nat), .bool hf, .bool hl, .bool hk] 40) (.cells #[.int .u64 0, .slice none 0 0, .int .i64 0, .slice none 0 0, .slice none 0 0, .bool false, .int .u64 0, .int .i64 0, .slice none 0 0] 34) (.cells #[.bool hf, .bool hl, .bool hk] 71)
  have hB := below4 w (.cells #[.int .u64 0, .slice none 0 0, .int .i64 0, .slice none 0 0, .slice none 0 0, .bool false, .int .u64 0, .int .i64 0, .slice none 0 0] 34) (.cells #[.int .i64 7, .int .i64 so, .int .i64 nn, .int .u64 (va : Nat), .int .u64 (wd : Nat), .bool hf, .bool hl, .bool hk] 40) (.cells #[.int .u64 0, .slice none 0 0, .int .i64 0, .slice none 0 0, .slice none 0 0, .bool false, .int .u64 0, .int .i64 0, .slice none 0 0] 34) (.cells #[.bool hf, .bool hl, .bool hk] 71)
  clear h
  go_enter Tryz.func9, Tryz.ntmps9
  go_upto_region 2 with fail
  generalize (((w.alloc (.cells #[.int .u64 0, .slice none 0 0, .int .i64 0, .slice none 0 0, .slice none 0 0, .bool false, .int .u64 0, .int .i64 0, .slice none 0 0] 34)).alloc (.cells #[.int .i64 7, .int .i64 so, .int .i64 nn, .int .u64 (va : Nat), .int .u64 (wd : Nat), .bool hf, .bool hl, .bool hk] 40)).alloc (.cells #[.int .u64 0, .slice none 0 0, .int .i64 0, .slice none 0 0, .slice none 0 0, .bool false, .int .u64 0, .int .i64 0, .slice none 0 0] 34)).alloc (.cells #[.bool hf, .bool hl, .bool hk] 71) = W at *
  have HB := Hid.mk hB
  clear hB
  obtain ⟨o0, o1, o2, o3, o4, o5, o6, o7⟩ := cells8p gO
  obtain ⟨c0, c1, c2, c3, c4, c5, c6, c7, c8⟩ := cells9 gY
  obtain ⟨t0, t1, t2⟩ := cells3 gH
  go_wp2_with fail
  refine (HW.out.does (fun X hM => flushAsid_c hM nn)).mono ?_
  rintro e w5 ⟨rfl, h5, hk5⟩
  replace gY := hk5.row (by simp) gY
  replace gO := hk5.row (by simp) gO
  replace gR := hk5.row (by simp) gR
  replace gH := hk5.row (by simp) gH
  have H5 := Hid.mk (And.intro h5 hk5)
  clear h5 hk5 HW o0 o1 o2 o3 o4 o5 o6 o7 c0 c1 c2 c3 c4 c5 c6 c7 c8 t0 t1 t2
  obtain ⟨o0, o1, o2, o3, o4, o5, o6, o7⟩ := cells8p gO
  obtain ⟨c0, c1, c2, c3, c4, c5, c6, c7, c8⟩ := cells9 gY
  obtain ⟨t0, t1, t2⟩ := cells3 gH
  go_wp2_with fail
  refine (zflush nn false 0 w5).mono ?_
  rintro e w6 ⟨rfl, hb6⟩
  replace gY := block_later hb6 gY
  replace gO := block_later hb6 gO
  replace gR := block_later hb6 gR
  replace gH := block_later hb6 gH
  have HB6 := Hid.mk hb6
  clear hb6 o0 o1 o2 o3 o4 o5 o6 o7 c0 c1 c2 c3 c4 c5 c6 c7 c8 t0 t1 t2
  go_wp2_with
    first
    | (refine wpList_store_segTo rfl 34 _ _ rfl rfl (w.heap.size + 1 + 1) 0 _ #[.int .u64 0, .slice none 0 0, .int .i64 0, .slice none 0 0, .slice none 0 0, .bool false, .int .u64 0, .int .i64 0, .slice none 0 0] rfl rfl rfl 34 _ gR (show 0 + 9 ≤ 9 by decide) info_X9 (by simp [Value.oneCell']) #[.int .u64 0, .slice none 0 0, .int .i64 0, .slice none 0 0, .slice none 0 0, .bool false, .int .u64 0, .int .i64 0, .slice none 0 0] rfl ?_
       intro wz hrz htz)
    | fail
  refine bodyPost_ret (TR.res_row_tmp (p := 6) (u := 7) rfl _ _ (w.heap.size + 1 + 1) 34 _ _ _ rfl hrz Tryz.underlying34 rfl info_X9) rfl ⟨⟨_, _, rfl⟩, ?_⟩
  exact H0.out.fin HB.out H5.out.2 (fun g hg => by simp [hg]) (H5.out.1.mono (by omega)) HB6.out htz (by simp) (by omega)

set_option maxHeartbeats 4000000 in
set_option maxRecDepth 100000 in
theorem step_10 {w0 w : World} {l : List Nat} {x a n S : Nat} {most : Int} {s : St} (h : One w0 w l x a n S most s) (so nn : Int) (va wd : Nat) (hf hl hk : Bool) :
    Calls Tryz.prog 9 #[.pointer (some ⟨x, 0, none⟩), .agg yZ, .agg #[.int .i64 10, .int .i64 so, .int .i64 nn, .int .u64 (va : Nat), .int .u64 (wd : Nat), .bool hf, .bool hl, .bool hk]] w fun r w' => (∃ c b, r = .returned (.tuple #[.agg c, .bool b])) ∧ StO w0 w l x a (n + 1) S most w' := by
  have H0 := Hid.mk h
  have HW := Hid.mk (h.own4 (.cells #[.int .u64 0, .slice none 0 0, .int .i64 0, .slice none 0 0, .slice none 0 0, .bool false, .int .u64 0, .int .i64 0, .slice none 0 0] 34) (.cells #[.int .i64 10, .int .i64 so, .int .i64 nn, .int .u64 (va : Nat), .int .u64 (wd : Nat), .bool hf, .bool hl, .bool hk] 40) (.cells #[.int .u64 0, .slice none 0 0, .int .i64 0, .slice none 0 0, .slice none 0 0, .bool false, .int .u64 0, .int .i64 0, .slice none 0 0] 34) (.cells #[.bool hf, .bool hl, .bool hk] 71))
  have gY := heap4_0 w (.cells #[.int .u64 0, .slice none 0 0, .int .i64 0, .slice none 0 0, .slice none 0 0, .bool false, .int .u64 0, .int .i64 0, .slice none 0 0] 34) (.cells #[.int .i64 10, .int .i64 so, .int .i64 nn, .int .u64 (va : Nat), .int .u64 (wd : Nat), .bool hf, .bool hl, .bool hk] 40) (.cells #[.int .u64 0, .slice none 0 0, .int .i64 0, .slice none 0 0, .slice none 0 0, .bool false, .int .u64 0, .int .i64 0, .slice none 0 0] 34) (.cells #[.bool hf, .bool hl, .bool hk] 71)
  have gO := heap4_1 w (.cells #[.int .u64 0, .slice none 0 0, .int .i64 0, .slice none 0 0, .slice none 0 0, .bool false, .int .u64 0, .int .i64 0, .slice none 0 0] 34) (.cells #[.int .i64 10, .int .i64 so, .int .i64 nn, .int .u64 (va : Nat), .int .u64 (wd : Nat), .bool hf, .bool hl, .bool hk] 40) (.cells #[.int .u64 0, .slice none 0 0, .int .i64 0, .slice none 0 0, .slice none 0 0, .bool false, .int .u64 0, .int .i64 0, .slice none 0 0] 34) (.cells #[.bool hf, .bool hl, .bool hk] 71)
  have gR := heap4_2 w (.cells #[.int .u64 0, .slice none 0 0, .int .i64 0, .slice none 0 0, .slice none 0 0, .bool false, .int .u64 0, .int .i64 0, .slice none 0 0] 34) (.cells #[.int .i64 10, .int .i64 so, .int .i64 nn, .int .u64 (va : Nat), .int .u64 (wd : Nat), .bool hf, .bool hl, .bool hk] 40) (.cells #[.int .u64 0, .slice none 0 0, .int .i64 0, .slice none 0 0, .slice none 0 0, .bool false, .int .u64 0, .int .i64 0, .slice none 0 0] 34) (.cells #[.bool hf, .bool hl, .bool hk] 71)
  have gH := heap4_3 w (.cells #[.int .u64 0, .slice none 0 0, .int .i64 0, .slice none 0 0, .slice none 0 0, .bool false, .int .u64 0, .int .i64 0, .slice none 0 0] 34) (.cells #[.int .i64 10, .int .i64 so, .int .i64 nn, .int .u64 (va : Nat), .int .u64 (wd : Nat), .bool hf, .bool hl, .bool hk] 40) (.cells #[.int .u64 0, .slice none 0 0, .int .i64 0, .slice none 0 0, .slice none 0 0, .bool false, .int .u64 0, .int .i64 0, .slice none 0 0] 34) (.cells #[.bool hf, .bool hl, .bool hk] 71)
  have hB := below4 w (.cells #[.int .u64 0, .slice none 0 0, .int .i64 0, .slice none 0 0, .slice none 0 0, .bool false, .int .u64 0, .int .i64 0, .slice none 0 0] 34) (.cells #[.int .i64 10, .int .i64 so, .int .i64 nn, .int .u64 (va : Nat), .int .u64 (wd : Nat), .bool hf, .bool hl, .bool hk] 40) (.cells #[.int .u64 0, .slice none 0 0, .int .i64 0, .slice none 0 0, .slice none 0 0, .bool false, .int .u64 0, .int .i64 0, .slice none 0 0] 34) (.cells #[.bool hf, .bool hl, .bool hk] 71)
  clear h
  go_enter Tryz.func9, Tryz.ntmps9
  go_upto_region 2 with fail
  generalize (((w.alloc (.cells #[.int .u64 0, .slice none 0 0, .int .i64 0, .slice none 0 0, .slice none 0 0, .bool false, .int .u64 0, .int .i64 0, .slice none 0 0] 34)).alloc (.cells #[.int .i64 10, .int .i64 so, .int .i64 nn, .int .u64 (va : Nat), .int .u64 (wd : Nat), .bool hf, .bool hl, .bool hk] 40)).alloc (.cells #[.int .u64 0, .slice none 0 0, .int .i64 0, .slice none 0 0, .slice none 0 0, .bool false, .int .u64 0, .int .i64 0, .slice none 0 0] 34)).alloc (.cells #[.bool hf, .bool hl, .bool hk] 71) = W at *
  have HB := Hid.mk hB
  clear hB
  obtain ⟨o0, o1, o2, o3, o4, o5, o6, o7⟩ := cells8p gO
  obtain ⟨c0, c1, c2, c3, c4, c5, c6, c7, c8⟩ := cells9 gY
  obtain ⟨t0, t1, t2⟩ := cells3 gH
  go_wp2_with fail
  refine (HW.out.does (fun X hM => off_c hM)).mono ?_
  rintro e w5 ⟨rfl, h5, hk5⟩
  replace gY := hk5.row (by simp) gY
  replace gO := hk5.row (by simp) gO
  replace gR := hk5.row (by simp) gR
  replace gH := hk5.row (by simp) gH
  have H5 := Hid.mk (And.intro h5 hk5)
  clear h5 hk5 HW o0 o1 o2 o3 o4 o5 o6 o7 c0 c1 c2 c3 c4 c5 c6 c7 c8 t0 t1 t2
  obtain ⟨o0, o1, o2, o3, o4, o5, o6, o7⟩ := cells8p gO
  obtain ⟨c0, c1, c2, c3, c4, c5, c6, c7, c8⟩ := cells9 gY
  obtain ⟨t0, t1, t2⟩ := cells3 gH
  go_wp2_with
    first
    | (refine wpList_store_segTo rfl 4 _ _ rfl rfl w.heap.size 5 _ #[.bool false] rfl rfl rfl 34 _ gY (show 5 + 1 ≤ 9 by decide) info_bool (by simp [Value.oneCell']) #[.int .u64 0, .slice none 0 0, .int .i64 0, .slice none 0 0, .slice none 0 0, .bool false, .int .u64 0, .int .i64 0, .slice none 0 0] rfl ?_
       intro wy hry hty
       replace gR := block_turn hty gR (by omega)
       clear c0 c1 c2 c3 c4 c5 c6 c7 c8
       obtain ⟨c0, c1, c2, c3, c4, c5, c6, c7, c8⟩ := cells9 hry)
    | (refine wpList_store_segTo rfl 34 _ _ rfl rfl (w.heap.size + 1 + 1) 0 _ #[.int .u64 0, .slice none 0 0, .int .i64 0, .slice none 0 0, .slice none 0 0, .bool false, .int .u64 0, .int .i64 0, .slice none 0 0] rfl rfl rfl 34 _ gR (show 0 + 9 ≤ 9 by decide) info_X9 (by simp [Value.oneCell']) #[.int .u64 0, .slice none 0 0, .int .i64 0, .slice none 0 0, .slice none 0 0, .bool false, .int .u64 0, .int .i64 0, .slice none 0 0] rfl ?_
       intro wz hrz htz)
    | fail
  refine bodyPost_ret (TR.res_row_tmp (p := 6) (u := 7) rfl _ _ (w.heap.size + 1 + 1) 34 _ _ _ rfl hrz Tryz.underlying34 rfl info_X9) rfl ⟨⟨_, _, rfl⟩, ?_⟩
  exact H0.out.fin2y HB.out H5.out.2 (fun g hg => by simp [hg]) (H5.out.1.mono (by omega)) (Below.refl _ _) hty htz (by simp) (by simp) (Nat.le_refl _) (by omega)

set_option maxHeartbeats 4000000 in
set_option maxRecDepth 100000 in
theorem step_12 {w0 w : World} {l : List Nat} {x a n S : Nat} {most : Int} {s : St} (h : One w0 w l x a n S most s) (so nn : Int) (va wd : Nat) (hf hl hk : Bool) (hva : va < 18446744073709551616) (hwd : wd < 18446744073709551616) (hn : n < 100000000) :
    Calls Tryz.prog 9 #[.pointer (some ⟨x, 0, none⟩), .agg yZ, .agg #[.int .i64 12, .int .i64 so, .int .i64 nn, .int .u64 (va : Nat), .int .u64 (wd : Nat), .bool hf, .bool hl, .bool hk]] w fun r w' => (∃ c b, r = .returned (.tuple #[.agg c, .bool b])) ∧ StO w0 w l x a (n + 1) S most w' := by
  have H0 := Hid.mk h
  have HW := Hid.mk (h.own4 (.cells #[.int .u64 0, .slice none 0 0, .int .i64 0, .slice none 0 0, .slice none 0 0, .bool false, .int .u64 0, .int .i64 0, .slice none 0 0] 34) (.cells #[.int .i64 12, .int .i64 so, .int .i64 nn, .int .u64 (va : Nat), .int .u64 (wd : Nat), .bool hf, .bool hl, .bool hk] 40) (.cells #[.int .u64 0, .slice none 0 0, .int .i64 0, .slice none 0 0, .slice none 0 0, .bool false, .int .u64 0, .int .i64 0, .slice none 0 0] 34) (.cells #[.bool hf, .bool hl, .bool hk] 71))
  have gY := heap4_0 w (.cells #[.int .u64 0, .slice none 0 0, .int .i64 0, .slice none 0 0, .slice none 0 0, .bool false, .int .u64 0, .int .i64 0, .slice none 0 0] 34) (.cells #[.int .i64 12, .int .i64 so, .int .i64 nn, .int .u64 (va : Nat), .int .u64 (wd : Nat), .bool hf, .bool hl, .bool hk] 40) (.cells #[.int .u64 0, .slice none 0 0, .int .i64 0, .slice none 0 0, .slice none 0 0, .bool false, .int .u64 0, .int .i64 0, .slice none 0 0] 34) (.cells #[.bool hf, .bool hl, .bool hk] 71)
  have gO := heap4_1 w (.cells #[.int .u64 0, .slice none 0 0, .int .i64 0, .slice none 0 0, .slice none 0 0, .bool false, .int .u64 0, .int .i64 0, .slice none 0 0] 34) (.cells #[.int .i64 12, .int .i64 so, .int .i64 nn, .int .u64 (va : Nat), .int .u64 (wd : Nat), .bool hf, .bool hl, .bool hk] 40) (.cells #[.int .u64 0, .slice none 0 0, .int .i64 0, .slice none 0 0, .slice none 0 0, .bool false, .int .u64 0, .int .i64 0, .slice none 0 0] 34) (.cells #[.bool hf, .bool hl, .bool hk] 71)
  have gR := heap4_2 w (.cells #[.int .u64 0, .slice none 0 0, .int .i64 0, .slice none 0 0, .slice none 0 0, .bool false, .int .u64 0, .int .i64 0, .slice none 0 0] 34) (.cells #[.int .i64 12, .int .i64 so, .int .i64 nn, .int .u64 (va : Nat), .int .u64 (wd : Nat), .bool hf, .bool hl, .bool hk] 40) (.cells #[.int .u64 0, .slice none 0 0, .int .i64 0, .slice none 0 0, .slice none 0 0, .bool false, .int .u64 0, .int .i64 0, .slice none 0 0] 34) (.cells #[.bool hf, .bool hl, .bool hk] 71)
  have gH := heap4_3 w (.cells #[.int .u64 0, .slice none 0 0, .int .i64 0, .slice none 0 0, .slice none 0 0, .bool false, .int .u64 0, .int .i64 0, .slice none 0 0] 34) (.cells #[.int .i64 12, .int .i64 so, .int .i64 nn, .int .u64 (va : Nat), .int .u64 (wd : Nat), .bool hf, .bool hl, .bool hk] 40) (.cells #[.int .u64 0, .slice none 0 0, .int .i64 0, .slice none 0 0, .slice none 0 0, .bool false, .int .u64 0, .int .i64 0, .slice none 0 0] 34) (.cells #[.bool hf, .bool hl, .bool hk] 71)
  have hB := below4 w (.cells #[.int .u64 0, .slice none 0 0, .int .i64 0, .slice none 0 0, .slice none 0 0, .bool false, .int .u64 0, .int .i64 0, .slice none 0 0] 34) (.cells #[.int .i64 12, .int .i64 so, .int .i64 nn, .int .u64 (va : Nat), .int .u64 (wd : Nat), .bool hf, .bool hl, .bool hk] 40) (.cells #[.int .u64 0, .slice none 0 0, .int .i64 0, .slice none 0 0, .slice none 0 0, .bool false, .int .u64 0, .int .i64 0, .slice none 0 0] 34) (.cells #[.bool hf, .bool hl, .bool hk] 71)
  clear h
  go_enter Tryz.func9, Tryz.ntmps9
  go_upto_region 2 with fail
  generalize (((w.alloc (.cells #[.int .u64 0, .slice none 0 0, .int .i64 0, .slice none 0 0, .slice none 0 0, .bool false, .int .u64 0, .int .i64 0, .slice none 0 0] 34)).alloc (.cells #[.int .i64 12, .int .i64 so, .int .i64 nn, .int .u64 (va : Nat), .int .u64 (wd : Nat), .bool hf, .bool hl, .bool hk] 40)).alloc (.cells #[.int .u64 0, .slice none 0 0, .int .i64 0, .slice none 0 0, .slice none 0 0, .bool false, .int .u64 0, .int .i64 0, .slice none 0 0] 34)).alloc (.cells #[.bool hf, .bool hl, .bool hk] 71) = W at *
  have HB := Hid.mk hB
  clear hB
  obtain ⟨o0, o1, o2, o3, o4, o5, o6, o7⟩ := cells8p gO
  obtain ⟨c0, c1, c2, c3, c4, c5, c6, c7, c8⟩ := cells9 gY
  obtain ⟨t0, t1, t2⟩ := cells3 gH
  go_wp2_with fail
  refine (HW.out.does (fun X hM => kwrite_c hM hn va wd hva hwd)).mono ?_
  rintro e w5 ⟨rfl, h5, hk5⟩
  replace gY := hk5.row (by simp) gY
  replace gO := hk5.row (by simp) gO
  replace gR := hk5.row (by simp) gR
  replace gH := hk5.row (by simp) gH
  have H5 := Hid.mk (And.intro h5 hk5)
  clear h5 hk5 HW o0 o1 o2 o3 o4 o5 o6 o7 c0 c1 c2 c3 c4 c5 c6 c7 c8 t0 t1 t2
  obtain ⟨o0, o1, o2, o3, o4, o5, o6, o7⟩ := cells8p gO
  obtain ⟨c0, c1, c2, c3, c4, c5, c6, c7, c8⟩ := cells9 gY
  obtain ⟨t0, t1, t2⟩ := cells3 gH
  go_wp2_with fail
  refine (zwrite va wd w5).mono ?_
  rintro e w6 ⟨rfl, hb6⟩
  replace gY := block_later hb6 gY
  replace gO := block_later hb6 gO
  replace gR := block_later hb6 gR
  replace gH := block_later hb6 gH
  have HB6 := Hid.mk hb6
  clear hb6 o0 o1 o2 o3 o4 o5 o6 o7 c0 c1 c2 c3 c4 c5 c6 c7 c8 t0 t1 t2
  have hbT := below_new w6 (.cells #[.int .u64 0, .slice none 0 0, .int .i64 0, .slice none 0 0, .slice none 0 0, .bool false, .int .u64 0, .int .i64 0, .slice none 0 0] 34)
  have gT := heap_alloc_new w6 (.cells #[.int .u64 0, .slice none 0 0, .int .i64 0, .slice none 0 0, .slice none 0 0, .bool false, .int .u64 0, .int .i64 0, .slice none 0 0] 34)
  go_upto_region 47 with fail
  generalize w6.alloc (.cells #[.int .u64 0, .slice none 0 0, .int .i64 0, .slice none 0 0, .slice none 0 0, .bool false, .int .u64 0, .int .i64 0, .slice none 0 0] 34) = w7 at *
  replace gR := block_later hbT gR
  have HB7 := Hid.mk (below_tr HB6.out hbT)
  clear hbT
  obtain ⟨c0, c1, c2, c3, c4, c5, c6, c7, c8⟩ := cells9 gT
  go_wp2_with
    first
    | (refine wpList_store_segTo rfl 34 _ _ rfl rfl (w.heap.size + 1 + 1) 0 _ #[.int .u64 0, .slice none 0 0, .int .i64 0, .slice none 0 0, .slice none 0 0, .bool false, .int .u64 0, .int .i64 0, .slice none 0 0] rfl rfl rfl 34 _ gR (show 0 + 9 ≤ 9 by decide) info_X9 (by simp [Value.oneCell']) #[.int .u64 0, .slice none 0 0, .int .i64 0, .slice none 0 0, .slice none 0 0, .bool false, .int .u64 0, .int .i64 0, .slice none 0 0] rfl ?_
       intro wz hrz htz)
    | fail
  refine bodyPost_ret (TR.res_row_tmp (p := 6) (u := 7) rfl _ _ (w.heap.size + 1 + 1) 34 _ _ _ rfl hrz Tryz.underlying34 rfl info_X9) rfl ⟨⟨_, _, rfl⟩, ?_⟩
  exact H0.out.fin HB.out H5.out.2 (fun g hg => by simp [hg]) (H5.out.1.mono (by omega)) HB7.out htz (by simp) (by omega)
end Go.Proofs.YtndjhedoandinaaGreatDoor.MM
