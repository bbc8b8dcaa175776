/- VirtFaults (P5.2): for every fault and every word the law returns true: any fault that may be has a word of its own, which is read as it; other words are no faults. No condition beyond the row's own. -/
import Derived.Test.YtldbldblpmlfpaaDoorCards
import Derived.Test.YtldbldblpmlfpaaDoorTie
import Derived.Test.YtldbldblpmlfpaaDoorFaultB
import Derived.ProofKit
import Derived.OpenShut
import Derived.SizedLaws
import Derived.Lay
import Derived.SevenTiedAt
import Derived.Deep.DeepHandedRow
import Derived.Deep.DeepWitnessRowRef
import Derived.Lib.LaidIn
import Derived.Lib.LaidTab
import Derived.Lib.LaidU8
import Derived.Lib.SmallJoins
namespace Go.Proofs.YtldbldblpmlfpaaDoor.virtFaults
open Go.ChangeShapes Go.WideShapes Go.ChangeAt Go.RowKit Go.Lib Go.Joins

/-- A variable that reads as two ints holds them, cell by cell. -/
theorem pair_of_reads {W : World} {n : String} {g : Nat} {a b : Int} (hg : Tryd.prog.globalNamed n = some g) (ht : (Tryd.prog.globals[g]?).map (·.type) = some 36)
    (h : VarReads Tryd.prog W n (.agg [.lit (.int .i64 a), .lit (.int .i64 b)])) : W.cell? ⟨g, 0, none⟩ = some (.int .i64 a) ∧ W.cell? ⟨g, 1, none⟩ = some (.int .i64 b) := by
  obtain ⟨g', t, cs, fuel, p, hg', hty, hvar, hd⟩ := h
  obtain rfl := Option.some.inj (hg.symm.trans hg')
  obtain rfl := Option.some.inj (ht.symm.trans hty)
  obtain ⟨y0, y1, m, hx, hl, h0, h1⟩ := trod_struct2 Tryd.underlying36 hd
  have hc : Tryd.prog.cellsOf 36 = 2 := by kernel_rfl
  have hc1 : Tryd.prog.cellsOf 3 = 1 := by kernel_rfl
  obtain ⟨c0, c1, rfl⟩ := array2 (cs := cs) (by simpa [hc] using hl)
  simp [hc1] at h0 h1
  obtain ⟨z0, e0, x0, _⟩ := DataW.trod_int Tryd.underlying3 h0
  obtain ⟨z1, e1, x1, _⟩ := DataW.trod_int Tryd.underlying3 h1
  subst x0 x1
  simp at hx e0 e1
  obtain ⟨⟨rfl, rfl⟩, _⟩ := hx
  rw [World.var?_cell hg hvar 0, World.var?_cell hg hvar 1]
  simp [e0, e1]

theorem right_word {k l : Int} (h : rightF k l = true) : okF (wordF k l) = true ∧ k = (kV (wordF k l) : Int) ∧ l = (lV (wordF k l) : Int) ∧ wordF k l < 64 := by
  have hb := of_decide_eq_true h
  have e : wordF k l = (k + 16 * l).toNat := by unfold wordF; rw [if_pos h]
  have ek : k = (kV (wordF k l) : Int) := by rw [kV_mod, e]; omega
  have el : l = (lV (wordF k l) : Int) := by rw [lV_mod, e]; omega
  refine ⟨?_, ek, el, by rw [e]; omega⟩
  unfold okF
  rw [decide_eq_true_eq, ← ek, ← el]
theorem ok_right {x : Nat} (h : okF x = true) : wordF (kV x) (lV x) = x ∧ rightF (kV x) (lV x) = true := by
  have h1 := of_decide_eq_true h
  refine ⟨h1, ?_⟩
  cases hr : rightF (kV x) (lV x)
  · have h0 : x = 0 := by
      have : wordF (kV x) (lV x) = 0 := by unfold wordF; rw [hr]; rfl
      omega
    subst h0
    rw [kV_mod, lV_mod] at hr
    exact absurd hr (by decide)
  · rfl
theorem bad_right {x : Nat} (h : okF x = false) (hx : ¬ 63 < x) : rightF ((x % 16 : Nat) : Int) ((x / 16 : Nat) : Int) = false := by
  cases hr : rightF ((x % 16 : Nat) : Int) ((x / 16 : Nat) : Int)
  · rfl
  · have e : wordF ((x % 16 : Nat) : Int) ((x / 16 : Nat) : Int) = x := by
      unfold wordF
      rw [if_pos hr]; omega
    have h1 := of_decide_eq_false h
    rw [kV_mod, lV_mod, show x / 16 % 4 = x / 16 by omega] at h1
    exact absurd e h1

set_option maxRecDepth 100000 in
set_option maxHeartbeats 4000000 in
theorem walk_r_ok (fk fl : Int) (x : Nat) (hx : x < 18446744073709551616) (hr : rightF fk fl = true) (hk : okF x = true) (w : World) (hF : FF w) :
    Calls Tryd.prog 3 #[.agg #[.int .i64 fk, .int .i64 fl], .int .u64 x] w fun e w' => e = .returned (.bool true) ∧ Below w.heap.size w w' := by
  have cA := fun w1 => anchor_any w1
  have cR := fun w1 => refFRight_any fk fl w1
  rw [hr] at cR
  have cW := fun w1 h => fword_any fk fl w1 h
  obtain ⟨y1, y2, y3, y4⟩ := right_word hr
  have cY := fun w1 h => readF_any (wordF fk fl) (by omega) fk fl true (Or.inl ⟨y1, y2, y3, rfl⟩) w1 h
  clear y1 y2 y3
  generalize wordF fk fl = y at *
  have cX := fun w1 h => readF_any x hx (kV x) (lV x) true (Or.inl ⟨hk, rfl, rfl, rfl⟩) w1 h
  have cV := fun w1 h => fword_any (kV x) (lV x) w1 h
  have cS := fun w1 => refFRight_any (kV x) (lV x) w1
  rw [(ok_right hk).1] at cV
  rw [(ok_right hk).2] at cS
  generalize kV x = K at *
  generalize lV x = L at *
  clear hr hk
  have hF1 := hF.alloc (.cells #[.int .i64 fk, .int .i64 fl] 23)
  go_enter Tryd.func3, Tryd.ntmps3
  go_wp2_with fail
  refine (cA _).mono ?_
  rintro e w1 ⟨rfl, hb1⟩
  have hB1 : Below w.heap.size w w1 := below_tr (below_new _ _) hb1
  have c0 : w1.cell? ⟨w.heap.size, 0, none⟩ = some (.int .i64 fk) := cell_later hb1 (by simp)
  have c1 : w1.cell? ⟨w.heap.size, 1, none⟩ = some (.int .i64 fl) := cell_later hb1 (by simp)
  have hF2 := hF1.later hb1
  clear hb1 hF hF1
  go_wp2_with fail
  refine (cR _).mono ?_
  rintro e w2 ⟨rfl, hb2⟩
  have hB2 := below_tr hB1 hb2
  have hF3 := hF2.later hb2
  replace c0 := cell_later hb2 c0
  replace c1 := cell_later hb2 c1
  clear hb2 hB1 hF2 cR cA
  go_wp2_with fail
  refine (cW _ hF3).mono ?_
  rintro e w3 ⟨rfl, hb3⟩
  have hB3 := below_tr hB2 hb3
  have hF4 := hF3.later hb3
  replace c0 := cell_later hb3 c0
  replace c1 := cell_later hb3 c1
  clear hb3 hB2 hF3 cW
  go_wp2_with fail
  refine (cY _ hF4).mono ?_
  rintro e w4 ⟨rfl, hb4⟩
  have hB4 := below_tr hB3 hb4
  have hF5 := hF4.later hb4
  replace c0 := cell_later hb4 c0
  replace c1 := cell_later hb4 c1
  have d0 := fun ob => cell_alloc (o := ob) c0
  have d1 := fun ob => cell_alloc (o := ob) c1
  have hB5 := fun ob => hB4.alloc (o := ob) hB4.size
  have hF6 := fun ob => hF5.alloc ob
  clear hb4 hB3 hF4 hF5 cY c0 c1 hB4
  go_wp2_with fail
  refine (cX _ (hF6 _)).mono ?_
  rintro e w5 ⟨rfl, hb5⟩
  have hB6 := below_tr (hB5 _) hb5
  have hF7 := (hF6 _).later hb5
  clear hb5 hB5 hF6 d0 d1 cX
  have hB7 := fun ob => hB6.alloc (o := ob) hB6.size
  have hF8 := fun ob => hF7.alloc ob
  go_wp2_with fail
  refine (cV _ (hF8 _)).mono ?_
  rintro e w6 ⟨rfl, hb6⟩
  have hB8 := below_tr (hB7 _) hb6
  have k0 : w6.cell? ⟨w5.heap.size, 0, none⟩ = some (.int .i64 (K : Int)) := cell_later hb6 (by simp)
  have k1 : w6.cell? ⟨w5.heap.size, 1, none⟩ = some (.int .i64 (L : Int)) := cell_later hb6 (by simp)
  clear hb6 hB7 hF8 hF7 hB6 cV
  go_wp2_with fail
  refine (cS _).mono ?_
  rintro e w7 ⟨rfl, hb7⟩
  go_wp2
  go_ret
  exact ⟨rfl, below_tr hB8 hb7⟩

set_option maxRecDepth 100000 in
set_option maxHeartbeats 4000000 in
theorem walk_r_big (fk fl : Int) (x : Nat) (hx : x < 18446744073709551616) (hr : rightF fk fl = true) (hk : okF x = false) (hbig : 63 < x) (w : World) (hF : FF w) :
    Calls Tryd.prog 3 #[.agg #[.int .i64 fk, .int .i64 fl], .int .u64 x] w fun e w' => e = .returned (.bool true) ∧ Below w.heap.size w w' := by
  have cA := fun w1 => anchor_any w1
  have cR := fun w1 => refFRight_any fk fl w1
  rw [hr] at cR
  have cW := fun w1 h => fword_any fk fl w1 h
  obtain ⟨y1, y2, y3, y4⟩ := right_word hr
  have cY := fun w1 h => readF_any (wordF fk fl) (by omega) fk fl true (Or.inl ⟨y1, y2, y3, rfl⟩) w1 h
  clear y1 y2 y3
  generalize wordF fk fl = y at *
  have cX := fun w1 h => readF_any x hx 0 0 false (Or.inr ⟨hk, rfl, rfl, rfl⟩) w1 h
  have hbI : (63 : Int) < (x : Int) := by omega
  have dB : decide ((63 : Int) < (x : Int)) = true := decide_eq_true hbI
  clear hbig
  clear hr hk
  have hF1 := hF.alloc (.cells #[.int .i64 fk, .int .i64 fl] 23)
  go_enter Tryd.func3, Tryd.ntmps3
  go_wp2_with fail
  refine (cA _).mono ?_
  rintro e w1 ⟨rfl, hb1⟩
  have hB1 : Below w.heap.size w w1 := below_tr (below_new _ _) hb1
  have c0 : w1.cell? ⟨w.heap.size, 0, none⟩ = some (.int .i64 fk) := cell_later hb1 (by simp)
  have c1 : w1.cell? ⟨w.heap.size, 1, none⟩ = some (.int .i64 fl) := cell_later hb1 (by simp)
  have hF2 := hF1.later hb1
  clear hb1 hF hF1
  go_wp2_with fail
  refine (cR _).mono ?_
  rintro e w2 ⟨rfl, hb2⟩
  have hB2 := below_tr hB1 hb2
  have hF3 := hF2.later hb2
  replace c0 := cell_later hb2 c0
  replace c1 := cell_later hb2 c1
  clear hb2 hB1 hF2 cR cA
  go_wp2_with fail
  refine (cW _ hF3).mono ?_
  rintro e w3 ⟨rfl, hb3⟩
  have hB3 := below_tr hB2 hb3
  have hF4 := hF3.later hb3
  replace c0 := cell_later hb3 c0
  replace c1 := cell_later hb3 c1
  clear hb3 hB2 hF3 cW
  go_wp2_with fail
  refine (cY _ hF4).mono ?_
  rintro e w4 ⟨rfl, hb4⟩
  have hB4 := below_tr hB3 hb4
  have hF5 := hF4.later hb4
  replace c0 := cell_later hb4 c0
  replace c1 := cell_later hb4 c1
  have d0 := fun ob => cell_alloc (o := ob) c0
  have d1 := fun ob => cell_alloc (o := ob) c1
  have hB5 := fun ob => hB4.alloc (o := ob) hB4.size
  have hF6 := fun ob => hF5.alloc ob
  clear hb4 hB3 hF4 hF5 cY c0 c1 hB4
  go_wp2_with fail
  refine (cX _ (hF6 _)).mono ?_
  rintro e w5 ⟨rfl, hb5⟩
  have hB6 := below_tr (hB5 _) hb5
  have hF7 := (hF6 _).later hb5
  clear hb5 hB5 hF6 d0 d1 cX
  go_wp2
  go_ret
  exact ⟨rfl, hB6.alloc hB6.size _⟩

set_option maxRecDepth 100000 in
set_option maxHeartbeats 4000000 in
theorem walk_r_small (fk fl : Int) (x : Nat) (hx : x < 18446744073709551616) (hr : rightF fk fl = true) (hk : okF x = false) (hbig : ¬ 63 < x) (w : World) (hF : FF w) :
    Calls Tryd.prog 3 #[.agg #[.int .i64 fk, .int .i64 fl], .int .u64 x] w fun e w' => e = .returned (.bool true) ∧ Below w.heap.size w w' := by
  have cA := fun w1 => anchor_any w1
  have cR := fun w1 => refFRight_any fk fl w1
  rw [hr] at cR
  have cW := fun w1 h => fword_any fk fl w1 h
  obtain ⟨y1, y2, y3, y4⟩ := right_word hr
  have cY := fun w1 h => readF_any (wordF fk fl) (by omega) fk fl true (Or.inl ⟨y1, y2, y3, rfl⟩) w1 h
  clear y1 y2 y3
  generalize wordF fk fl = y at *
  have cX := fun w1 h => readF_any x hx 0 0 false (Or.inr ⟨hk, rfl, rfl, rfl⟩) w1 h
  have cS := fun w1 => refFRight_any ((x % 16 : Nat) : Int) ((x / 16 : Nat) : Int) w1
  rw [bad_right hk hbig] at cS
  have e1 : (x : Int) % 16 = ((x % 16 : Nat) : Int) := by omega
  have e2 : (x : Int) / 16 = ((x / 16 : Nat) : Int) := by omega
  have hbI : (x : Int) ≤ 63 := by omega
  have dB : decide ((63 : Int) < (x : Int)) = false := decide_eq_false (by omega)
  have l1 : x % 16 < 16 := by omega
  have l2 : x / 16 < 4 := by omega
  clear hbig
  generalize x % 16 = A at *
  generalize x / 16 = B at *
  clear hr hk
  have hF1 := hF.alloc (.cells #[.int .i64 fk, .int .i64 fl] 23)
  go_enter Tryd.func3, Tryd.ntmps3
  go_wp2_with fail
  refine (cA _).mono ?_
  rintro e w1 ⟨rfl, hb1⟩
  have hB1 : Below w.heap.size w w1 := below_tr (below_new _ _) hb1
  have c0 : w1.cell? ⟨w.heap.size, 0, none⟩ = some (.int .i64 fk) := cell_later hb1 (by simp)
  have c1 : w1.cell? ⟨w.heap.size, 1, none⟩ = some (.int .i64 fl) := cell_later hb1 (by simp)
  have hF2 := hF1.later hb1
  clear hb1 hF hF1
  go_wp2_with fail
  refine (cR _).mono ?_
  rintro e w2 ⟨rfl, hb2⟩
  have hB2 := below_tr hB1 hb2
  have hF3 := hF2.later hb2
  replace c0 := cell_later hb2 c0
  replace c1 := cell_later hb2 c1
  clear hb2 hB1 hF2 cR cA
  go_wp2_with fail
  refine (cW _ hF3).mono ?_
  rintro e w3 ⟨rfl, hb3⟩
  have hB3 := below_tr hB2 hb3
  have hF4 := hF3.later hb3
  replace c0 := cell_later hb3 c0
  replace c1 := cell_later hb3 c1
  clear hb3 hB2 hF3 cW
  go_wp2_with fail
  refine (cY _ hF4).mono ?_
  rintro e w4 ⟨rfl, hb4⟩
  have hB4 := below_tr hB3 hb4
  have hF5 := hF4.later hb4
  replace c0 := cell_later hb4 c0
  replace c1 := cell_later hb4 c1
  have d0 := fun ob => cell_alloc (o := ob) c0
  have d1 := fun ob => cell_alloc (o := ob) c1
  have hB5 := fun ob => hB4.alloc (o := ob) hB4.size
  have hF6 := fun ob => hF5.alloc ob
  clear hb4 hB3 hF4 hF5 cY c0 c1 hB4
  go_wp2_with fail
  refine (cX _ (hF6 _)).mono ?_
  rintro e w5 ⟨rfl, hb5⟩
  have hB6 := below_tr (hB5 _) hb5
  have hF7 := (hF6 _).later hb5
  clear hb5 hB5 hF6 d0 d1 cX
  have hB7 := fun ob => hB6.alloc (o := ob) hB6.size
  go_wp2_with fail
  refine (cS _).mono ?_
  rintro e w7 ⟨rfl, hb7⟩
  go_wp2
  go_ret
  exact ⟨rfl, below_tr (hB7 _) hb7⟩

set_option maxRecDepth 100000 in
set_option maxHeartbeats 4000000 in
theorem walk_n_ok (fk fl : Int) (x : Nat) (hx : x < 18446744073709551616) (hr : rightF fk fl = false) (hk : okF x = true) (w : World) (hF : FF w) :
    Calls Tryd.prog 3 #[.agg #[.int .i64 fk, .int .i64 fl], .int .u64 x] w fun e w' => e = .returned (.bool true) ∧ Below w.heap.size w w' := by
  have cA := fun w1 => anchor_any w1
  have cR := fun w1 => refFRight_any fk fl w1
  rw [hr] at cR
  have cW := fun w1 h => fword_any fk fl w1 h
  rw [show wordF fk fl = 0 by unfold wordF; rw [hr]; rfl] at cW
  have cX := fun w1 h => readF_any x hx (kV x) (lV x) true (Or.inl ⟨hk, rfl, rfl, rfl⟩) w1 h
  have cV := fun w1 h => fword_any (kV x) (lV x) w1 h
  have cS := fun w1 => refFRight_any (kV x) (lV x) w1
  rw [(ok_right hk).1] at cV
  rw [(ok_right hk).2] at cS
  generalize kV x = K at *
  generalize lV x = L at *
  clear hr hk
  have hF1 := hF.alloc (.cells #[.int .i64 fk, .int .i64 fl] 23)
  go_enter Tryd.func3, Tryd.ntmps3
  go_wp2_with fail
  refine (cA _).mono ?_
  rintro e w1 ⟨rfl, hb1⟩
  have hB1 : Below w.heap.size w w1 := below_tr (below_new _ _) hb1
  have c0 : w1.cell? ⟨w.heap.size, 0, none⟩ = some (.int .i64 fk) := cell_later hb1 (by simp)
  have c1 : w1.cell? ⟨w.heap.size, 1, none⟩ = some (.int .i64 fl) := cell_later hb1 (by simp)
  have hF2 := hF1.later hb1
  clear hb1 hF hF1
  go_wp2_with fail
  refine (cR _).mono ?_
  rintro e w2 ⟨rfl, hb2⟩
  have hB2 := below_tr hB1 hb2
  have hF3 := hF2.later hb2
  replace c0 := cell_later hb2 c0
  replace c1 := cell_later hb2 c1
  clear hb2 hB1 hF2 cR cA
  go_wp2_with fail
  refine (cW _ hF3).mono ?_
  rintro e w3 ⟨rfl, hb3⟩
  have hB3 := below_tr hB2 hb3
  have hF4 := hF3.later hb3
  replace c0 := cell_later hb3 c0
  replace c1 := cell_later hb3 c1
  clear hb3 hB2 hF3 cW
  go_wp2_with fail
  refine (cX _ hF4).mono ?_
  rintro e w5 ⟨rfl, hb5⟩
  have hB6 := below_tr hB3 hb5
  have hF7 := hF4.later hb5
  clear hb5 hB3 hF4 c0 c1 cX
  have hB7 := fun ob => hB6.alloc (o := ob) hB6.size
  have hF8 := fun ob => hF7.alloc ob
  go_wp2_with fail
  refine (cV _ (hF8 _)).mono ?_
  rintro e w6 ⟨rfl, hb6⟩
  have hB8 := below_tr (hB7 _) hb6
  have k0 : w6.cell? ⟨w5.heap.size, 0, none⟩ = some (.int .i64 (K : Int)) := cell_later hb6 (by simp)
  have k1 : w6.cell? ⟨w5.heap.size, 1, none⟩ = some (.int .i64 (L : Int)) := cell_later hb6 (by simp)
  clear hb6 hB7 hF8 hF7 hB6 cV
  go_wp2_with fail
  refine (cS _).mono ?_
  rintro e w7 ⟨rfl, hb7⟩
  go_wp2
  go_ret
  exact ⟨rfl, below_tr hB8 hb7⟩

set_option maxRecDepth 100000 in
set_option maxHeartbeats 4000000 in
theorem walk_n_big (fk fl : Int) (x : Nat) (hx : x < 18446744073709551616) (hr : rightF fk fl = false) (hk : okF x = false) (hbig : 63 < x) (w : World) (hF : FF w) :
    Calls Tryd.prog 3 #[.agg #[.int .i64 fk, .int .i64 fl], .int .u64 x] w fun e w' => e = .returned (.bool true) ∧ Below w.heap.size w w' := by
  have cA := fun w1 => anchor_any w1
  have cR := fun w1 => refFRight_any fk fl w1
  rw [hr] at cR
  have cW := fun w1 h => fword_any fk fl w1 h
  rw [show wordF fk fl = 0 by unfold wordF; rw [hr]; rfl] at cW
  have cX := fun w1 h => readF_any x hx 0 0 false (Or.inr ⟨hk, rfl, rfl, rfl⟩) w1 h
  have hbI : (63 : Int) < (x : Int) := by omega
  have dB : decide ((63 : Int) < (x : Int)) = true := decide_eq_true hbI
  clear hbig
  clear hr hk
  have hF1 := hF.alloc (.cells #[.int .i64 fk, .int .i64 fl] 23)
  go_enter Tryd.func3, Tryd.ntmps3
  go_wp2_with fail
  refine (cA _).mono ?_
  rintro e w1 ⟨rfl, hb1⟩
  have hB1 : Below w.heap.size w w1 := below_tr (below_new _ _) hb1
  have c0 : w1.cell? ⟨w.heap.size, 0, none⟩ = some (.int .i64 fk) := cell_later hb1 (by simp)
  have c1 : w1.cell? ⟨w.heap.size, 1, none⟩ = some (.int .i64 fl) := cell_later hb1 (by simp)
  have hF2 := hF1.later hb1
  clear hb1 hF hF1
  go_wp2_with fail
  refine (cR _).mono ?_
  rintro e w2 ⟨rfl, hb2⟩
  have hB2 := below_tr hB1 hb2
  have hF3 := hF2.later hb2
  replace c0 := cell_later hb2 c0
  replace c1 := cell_later hb2 c1
  clear hb2 hB1 hF2 cR cA
  go_wp2_with fail
  refine (cW _ hF3).mono ?_
  rintro e w3 ⟨rfl, hb3⟩
  have hB3 := below_tr hB2 hb3
  have hF4 := hF3.later hb3
  replace c0 := cell_later hb3 c0
  replace c1 := cell_later hb3 c1
  clear hb3 hB2 hF3 cW
  go_wp2_with fail
  refine (cX _ hF4).mono ?_
  rintro e w5 ⟨rfl, hb5⟩
  have hB6 := below_tr hB3 hb5
  have hF7 := hF4.later hb5
  clear hb5 hB3 hF4 c0 c1 cX
  go_wp2
  go_ret
  exact ⟨rfl, hB6.alloc hB6.size _⟩

set_option maxRecDepth 100000 in
set_option maxHeartbeats 4000000 in
theorem walk_n_small (fk fl : Int) (x : Nat) (hx : x < 18446744073709551616) (hr : rightF fk fl = false) (hk : okF x = false) (hbig : ¬ 63 < x) (w : World) (hF : FF w) :
    Calls Tryd.prog 3 #[.agg #[.int .i64 fk, .int .i64 fl], .int .u64 x] w fun e w' => e = .returned (.bool true) ∧ Below w.heap.size w w' := by
  have cA := fun w1 => anchor_any w1
  have cR := fun w1 => refFRight_any fk fl w1
  rw [hr] at cR
  have cW := fun w1 h => fword_any fk fl w1 h
  rw [show wordF fk fl = 0 by unfold wordF; rw [hr]; rfl] at cW
  have cX := fun w1 h => readF_any x hx 0 0 false (Or.inr ⟨hk, rfl, rfl, rfl⟩) w1 h
  have cS := fun w1 => refFRight_any ((x % 16 : Nat) : Int) ((x / 16 : Nat) : Int) w1
  rw [bad_right hk hbig] at cS
  have e1 : (x : Int) % 16 = ((x % 16 : Nat) : Int) := by omega
  have e2 : (x : Int) / 16 = ((x / 16 : Nat) : Int) := by omega
  have hbI : (x : Int) ≤ 63 := by omega
  have dB : decide ((63 : Int) < (x : Int)) = false := decide_eq_false (by omega)
  have l1 : x % 16 < 16 := by omega
  have l2 : x / 16 < 4 := by omega
  clear hbig
  generalize x % 16 = A at *
  generalize x / 16 = B at *
  clear hr hk
  have hF1 := hF.alloc (.cells #[.int .i64 fk, .int .i64 fl] 23)
  go_enter Tryd.func3, Tryd.ntmps3
  go_wp2_with fail
  refine (cA _).mono ?_
  rintro e w1 ⟨rfl, hb1⟩
  have hB1 : Below w.heap.size w w1 := below_tr (below_new _ _) hb1
  have c0 : w1.cell? ⟨w.heap.size, 0, none⟩ = some (.int .i64 fk) := cell_later hb1 (by simp)
  have c1 : w1.cell? ⟨w.heap.size, 1, none⟩ = some (.int .i64 fl) := cell_later hb1 (by simp)
  have hF2 := hF1.later hb1
  clear hb1 hF hF1
  go_wp2_with fail
  refine (cR _).mono ?_
  rintro e w2 ⟨rfl, hb2⟩
  have hB2 := below_tr hB1 hb2
  have hF3 := hF2.later hb2
  replace c0 := cell_later hb2 c0
  replace c1 := cell_later hb2 c1
  clear hb2 hB1 hF2 cR cA
  go_wp2_with fail
  refine (cW _ hF3).mono ?_
  rintro e w3 ⟨rfl, hb3⟩
  have hB3 := below_tr hB2 hb3
  have hF4 := hF3.later hb3
  replace c0 := cell_later hb3 c0
  replace c1 := cell_later hb3 c1
  clear hb3 hB2 hF3 cW
  go_wp2_with fail
  refine (cX _ hF4).mono ?_
  rintro e w5 ⟨rfl, hb5⟩
  have hB6 := below_tr hB3 hb5
  have hF7 := hF4.later hb5
  clear hb5 hB3 hF4 c0 c1 cX
  have hB7 := fun ob => hB6.alloc (o := ob) hB6.size
  go_wp2_with fail
  refine (cS _).mono ?_
  rintro e w7 ⟨rfl, hb7⟩
  go_wp2
  go_ret
  exact ⟨rfl, below_tr (hB7 _) hb7⟩

theorem walk (fk fl : Int) (x : Nat) (w : World) (hx : x < 18446744073709551616) (hF : FF w) :
    Calls Tryd.prog 3 #[.agg #[.int .i64 fk, .int .i64 fl], .int .u64 x] w fun e w' => e = .returned (.bool true) ∧ Below w.heap.size w w' := by
  cases hr : rightF fk fl
  · cases hk : okF x
    · by_cases hb : 63 < x
      · exact walk_n_big fk fl x hx hr hk hb w hF
      · exact walk_n_small fk fl x hx hr hk hb w hF
    · exact walk_n_ok fk fl x hx hr hk w hF
  · cases hk : okF x
    · by_cases hb : 63 < x
      · exact walk_r_big fk fl x hx hr hk hb w hF
      · exact walk_r_small fk fl x hx hr hk hb w hF
    · exact walk_r_ok fk fl x hx hr hk w hF

theorem met {W : World} (h : laidMet Tryd.prog Rows.virtFaultsRow.laid W) : FF W := by
  have h1 := pair_of_reads (g := 1) (by kernel_rfl) (by kernel_rfl) (Lib.laidMet.reads h (n := "portreeve/virt.kindField") (d := Rows.laid_portreeve_virt_kindField) (by simp [Rows.virtFaultsRow]))
  have h2 := pair_of_reads (g := 0) (by kernel_rfl) (by kernel_rfl) (Lib.laidMet.reads h (n := "portreeve/virt.levelField") (d := Rows.laid_portreeve_virt_levelField) (by simp [Rows.virtFaultsRow]))
  exact ⟨h1.1, h1.2, h2.1, h2.2⟩

theorem own : ownKnob Tryd.prog.godebug = none := by kernel_rfl
theorem laidOut : laidOutB Tryd.prog = true := by kernel_rfl

set_option linter.unusedVariables false in
set_option maxRecDepth 100000 in
theorem contract (H : Type) (enc : TypeId × Value → H) (W : World) (base : Nat) (args : Array Value) (ds gs : List (DataW H)) (before : List MemPlace)
    (hval0 : ∀ (j : Nat) t v, Tryd.f3.params[j]? = some t → args[j]? = some v → Value.okWide Tryd.prog W .any base t v)
    (hW : DataW.Whole enc Tryd.prog Tryd.f3.params.toList Rows.virtFaultsSpec.vars false W args.toList ds gs before) (hL0 : laidMetH Tryd.prog Rows.virtFaultsRow.laid W) :
    Calls Tryd.prog 3 args W fun e W' => ∃ v, e = .returned v ∧ Rows.virtFaultsSpec.post enc Tryd.prog Tryd.f3 false true false false W args v W' := by
  have hL := hL0
  rw [MakeChecks.laidMetH_plain _ _ _ (by kernel_rfl)] at hL
  have hval := hval0
  have hW' := hW
  obtain ⟨p, q, hA0, hV, rfl, hfz, hnd⟩ := hW
  have hA : DataW.TrodAll enc Tryd.prog W 0 (fun _ => true) true Tryd.f3.params.toList args.toList ds p := hA0
  rw [Tryd.params3] at hA hval
  obtain ⟨v0, vs0, d0, ds0, p0, q0, hargs, rfl, rfl, h0, r0⟩ := trodAll_cons hA
  obtain ⟨v1, vs1, d1, ds1, p1, q1, rfl, rfl, rfl, h1, r1⟩ := trodAll_cons r0
  obtain ⟨rfl, rfl, rfl⟩ := trodAll_nil r1
  obtain rfl : args = #[v0, v1] := by cases args; simp_all
  obtain ⟨rfl, rfl⟩ := trodVars_none hV
  have k0 := h0
  have lt0 : ∀ x ∈ p0, x.block < W.heap.size := by obtain ⟨m, hm⟩ := k0; exact DataW.trod_lt m _ _ _ hm
  have k1 := h1
  have lt1 : ∀ x ∈ p1, x.block < W.heap.size := by obtain ⟨m, hm⟩ := k1; exact DataW.trod_lt m _ _ _ hm
  obtain ⟨c00, c01, y00, y01, m0, rfl, _, _, hy00, hy01⟩ := open_agg2 Tryd.underlying23 (by kernel_rfl) (by kernel_rfl) (hval 0 23 v0 rfl rfl) h0
  obtain ⟨a0, e00, _, wa0⟩ := DataW.trod_int Tryd.underlying3 hy00
  obtain ⟨b0', e01, _, wb0⟩ := DataW.trod_int Tryd.underlying3 hy01
  simp only [List.cons.injEq, and_true] at e00 e01
  subst e00 e01
  obtain ⟨a1, rfl, _, _, w1⟩ := open_int Tryd.underlying24 (hval 1 24 v1 rfl rfl) h1
  obtain ⟨x1, rfl⟩ := Int.eq_ofNat_of_zero_le (bounds_u64 w1).1
  have b1 : x1 < 18446744073709551616 := by have := (bounds_u64 w1).2; omega
  clear hA0 hval0
  refine (walk a0 b0' x1 W b1 (met hL)).mono fun e W' ⟨he, bel⟩ => ?_
  subst he
  exact ⟨_, rfl, _, _, _, [], _, [], hW', trodAll_mk1 (shut_bool Tryd.underlying4 _), (trodAll_cons_mk (Below.trod laidOut (by kernel_rfl) (of_decide_eq_true (by kernel_rfl)) k0 bel lt0) (trodAll_cons_mk (Below.trod laidOut (by kernel_rfl) (of_decide_eq_true (by kernel_rfl)) k1 bel lt1) trodAll_mk0)), rfl, bel.frame _, fun h => by cases h⟩

theorem laid_met (os : Os) : laidMet Tryd.prog Rows.virtFaultsRow.laid ((World.laidAll Tryd.prog os Rows.virtFaultsRow.laid).forCall (fun _ _ => 0) ⟨#[], #[.agg #[.int .i64 0, .int .i64 0], .int .u64 0], []⟩).memory :=
  laidMet_laidAll _ (by kernel_rfl) (by kernel_rfl)
theorem reads (os : Os) {H : Type} (enc : TypeId × Value → H) : ∃ places, DataW.whole enc Tryd.prog ((World.laidAll Tryd.prog os Rows.virtFaultsRow.laid).forCall (fun _ _ => 0) ⟨#[], #[.agg #[.int .i64 0, .int .i64 0], .int .u64 0], []⟩).memory Tryd.f3.params.toList Rows.virtFaultsSpec.vars false (#[.agg #[.int .i64 0, .int .i64 0], .int .u64 0] : Array Value).toList 8 = some ([.agg [.lit (.int .i64 0), .lit (.int .i64 0)], .lit (.int .u64 0)], [], places) :=
  ⟨[], by kernel_rfl⟩

set_option maxRecDepth 100000 in
theorem lifted (os : Os) (started : os.Started) (H : Type) (enc : TypeId × Value → H) (F : Stop.Interp) :
    ReturnsInHanded {} Tryd.checked os 3 .any ((OpenSpec.ofChange Rows.virtFaultsSpec).preRow enc Tryd.prog Tryd.f3 Rows.virtFaultsRow.domain false Rows.virtFaultsRow.laid) (((OpenSpec.ofChange Rows.virtFaultsSpec).at F).post enc Tryd.prog Tryd.f3 false true false false) := by
  obtain ⟨places, hx⟩ := reads os enc
  refine returnsInHanded_of_row (C := Tryd.checked) (s := (OpenSpec.ofChange Rows.virtFaultsSpec)) own started (by kernel_rfl) Tryd.func3
    (witness_row_at (enc := enc) (C := Tryd.checked) false (World.laidAll Tryd.prog os Rows.virtFaultsRow.laid) #[.agg #[.int .i64 0, .int .i64 0], .int .u64 0] (World.laidAll_os _ _ _) (by kernel_rfl) (by kernel_rfl) (by kernel_rfl)
      (OpenSpec.preRow_of_cond 8 hx (by kernel_rfl) (fun k hk => by cases hk) (by kernel_rfl) (laid_met os))) ?_
  intro W base args ds gs before hval hW _ _ _ hL _ _
  exact contract H enc W base args ds gs before hval hW hL

theorem said : Rows.VirtFaultsSaid :=
  OpenClaim.holds_of_cond 3 Tryd.f3 rfl rfl rfl rfl rfl rfl rfl ⟨rfl, rfl, rfl, rfl, rfl⟩ rfl rfl rfl rfl rfl (by kernel_rfl) Tryd.func3 (by kernel_rfl)
    (of_decide_eq_true (by kernel_rfl)) (by unfold Func.isWrapper; first | (rw [if_pos (by decide +kernel)]; kernel_rfl) | (rw [if_neg (by decide +kernel)]; exact ⟨rfl, rfl⟩))
    (fun os started H enc _ F => by rw [OpenClaim.pre_eq_preRow]; exact lifted os started H enc F)

theorem plain (f : FuncId) (fn : Func) (hf : Tryd.pinned.checked.prog.funcNamed "portreeve/portreevelaw05.VirtFaults" = some f) (hfn : Tryd.pinned.checked.prog.funcs[f]? = some fn) :
    false = Tryd.pinned.checked.prog.looks [] ∧ ∀ (j : Nat) t, fn.params[j]? = some t → Tryd.pinned.checked.prog.wantsStandIn t = false := by
  obtain rfl : f = 3 := Option.some.inj ((show Tryd.prog.funcNamed "portreeve/portreevelaw05.VirtFaults" = some 3 by kernel_rfl).symm.trans hf) |>.symm
  obtain rfl : fn = Tryd.f3 := (Option.some.inj (Tryd.func3.symm.trans hfn)).symm
  refine ⟨by kernel_rfl, fun j t ht => ?_⟩
  rw [Tryd.params3] at ht
  have hm : t ∈ [23, 24] := by simpa using Array.mem_of_getElem? ht
  have hall : ([23, 24].all fun u => !Tryd.prog.wantsStandIn u) = true := by kernel_rfl
  exact (show Tryd.prog.wantsStandIn t = false by simpa using List.all_eq_true.1 hall t hm)

theorem card : Rows.VirtFaultsCardSaid :=
  Claim7.holds_tied_plain_at .later [] _ _ _ _ said (fun _ h => by cases h) (by kernel_rfl) (fun _ h => by cases h) virtFaults_row_tie rfl ⟨rfl, rfl⟩ (by kernel_rfl) rfl plain (by kernel_rfl)

end Go.Proofs.YtldbldblpmlfpaaDoor.virtFaults
