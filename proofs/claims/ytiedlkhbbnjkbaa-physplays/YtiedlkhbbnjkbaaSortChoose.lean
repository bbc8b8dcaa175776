/- choosePivot at words. -/
import Derived.Test.YtiedlkhbbnjkbaaSortPivot
namespace Go.Proofs.Ytiedlkhbbnjkbaa
open Go.RowKit
open Go.Sort (swp ltInt PermIn SortedIn)

theorem cn_new {w : World} {g : Nat} {d : Array Int} (h : Rw w g d) (hg : g < w.heap.size) :
    Cn (w.alloc (.cells #[.int .i64 0] 3)) g w.heap.size d 0 ∧ Turn (fun i => i = w.heap.size) w (w.alloc (.cells #[.int .i64 0] 3)) := by
  have hb : Below w.heap.size w (w.alloc (.cells #[.int .i64 0] 3)) := (Below.refl _ _).alloc (Nat.le_refl _) _
  exact ⟨⟨h.below hg hb, Nat.lt_of_lt_of_le hg hb.size, by simp, frozen_of_row _ _ _ _ _ (heap_alloc_new w _), by omega, Int.le_refl _⟩, turn_of_below _ hb⟩

theorem to_of_cn {w w' : World} {g : Nat} {d : Array Int} {n : Int} (hg : g < w.heap.size) (h : Cn w' g w.heap.size d n) (ht : Turn (fun i => i = w.heap.size) w w') : To g w d w' :=
  ⟨h.row, ⟨ht.os, ht.tape, ht.output, ht.size, fun i hi _ => ht.block i hi (by omega)⟩, hg⟩

set_option maxHeartbeats 2000000 in
theorem choose_c {w : World} {g : Nat} {d : Array Int} (cap a b : Nat) (h : Rw w g d) (hg : g < w.heap.size) (hab : a + 8 ≤ b) (hb : b ≤ d.size) (hs : d.size < 4611686018427387904) :
    Calls Try.prog 48 #[.slice (some ⟨g, 0, none⟩) d.size cap, .int .i64 a, .int .i64 b] w fun r w' => ∃ (x : Nat) (t : Int), r = .returned (.tuple #[.int .i64 x, .int .i64 t]) ∧ a ≤ x ∧ x < b ∧ (t = 0 ∨ t = 1 ∨ t = 2) ∧ To g w d w' := by
  obtain ⟨C0, T0⟩ := cn_new h hg
  have HG := Hid.mk hg
  obtain ⟨L, hL⟩ : ∃ L, L = b - a := ⟨_, rfl⟩
  have iL : (b : Int) - a = (L : Int) := by omega
  have d8 : decide ((8 : Int) ≤ L) = true := decide_eq_true (by omega)
  obtain ⟨I, hI⟩ : ∃ I, I = a + L / 4 := ⟨_, rfl⟩
  obtain ⟨J, hJ⟩ : ∃ J, J = a + L / 4 * 2 := ⟨_, rfl⟩
  obtain ⟨K, hK⟩ : ∃ K, K = a + L / 4 * 3 := ⟨_, rfl⟩
  have iI : (a : Int) + (L : Int) / 4 = (I : Int) := by omega
  have iJ : (a : Int) + (L : Int) / 4 * 2 = (J : Int) := by omega
  have iK : (a : Int) + (L : Int) / 4 * 3 = (K : Int) := by omega
  have bI : a < I ∧ I + 1 < b := by omega
  have bJ : a < J ∧ J + 1 < b := by omega
  have bK : a < K ∧ K + 1 < b := by omega
  have HB := Hid.mk (And.intro hb hs)
  have HC0 := Hid.mk C0
  have HT0 := Hid.mk T0
  clear hI hJ hK h C0 T0
  by_cases h50 : 50 ≤ L
  · have d50 : decide ((50 : Int) ≤ L) = true := decide_eq_true (by omega)
    clear hL
    go_enter Try.func48, Try.ntmps48
    go_wp2_with fail
    generalize w.alloc (.cells #[.int .i64 0] 3) = w0 at *
    refine (medadj_c cap I a b HC0.out (by omega) bI HB.out.1 HB.out.2).mono ?_
    rintro e1 w1 ⟨i1, rfl, i11, i12, m1, hC1, hm1, ht1⟩
    have HT1 := Hid.mk ht1
    clear ht1
    go_wp2_with fail
    refine (medadj_c cap J a b hC1 (by omega) bJ HB.out.1 HB.out.2).mono ?_
    rintro e2 w2 ⟨j1, rfl, j11, j12, m2, hC2, hm2, ht2⟩
    have HT2 := Hid.mk ht2
    clear ht2 hC1
    go_wp2_with fail
    refine (medadj_c cap K a b hC2 (by omega) bK HB.out.1 HB.out.2).mono ?_
    rintro e3 w3 ⟨k1, rfl, k11, k12, m3, hC3, hm3, ht3⟩
    have HT3 := Hid.mk ht3
    clear ht3 hC2
    go_wp2_with fail
    refine (median_c cap i1 j1 k1 a b hC3 (by omega) ⟨i11, i12⟩ ⟨j11, j12⟩ ⟨k11, k12⟩ HB.out.1).mono ?_
    rintro e4 w4 ⟨x, rfl, x1, x2, m4, hC4, hm4, ht4⟩
    have HT4 := Hid.mk (to_of_cn HG.out hC4 ((((HT0.out.trans HT1.out (fun _ _ h => h)).trans HT2.out (fun _ _ h => h)).trans HT3.out (fun _ _ h => h)).trans ht4 (fun _ _ h => h)))
    have c4 := hC4.cell
    clear hC3 hC4 ht4 HT0 HT1 HT2 HT3 hm1 hm2 hm3 hm4
    by_cases z0 : m4 = 0
    · subst z0
      go_wp2
      go_ret2
      exact ⟨x, 1, rfl, x1, x2, by omega, HT4.out⟩
    · by_cases z12 : m4 = 12
      · subst z12
        go_wp2
        go_ret2
        exact ⟨x, 2, rfl, x1, x2, by omega, HT4.out⟩
      · go_wp2
        go_ret2
        exact ⟨x, 0, rfl, x1, x2, by omega, HT4.out⟩
  · have d50 : decide ((50 : Int) ≤ L) = false := decide_eq_false (by omega)
    clear hL
    go_enter Try.func48, Try.ntmps48
    go_wp2_with fail
    generalize w.alloc (.cells #[.int .i64 0] 3) = w0 at *
    refine (median_c cap I J K a b HC0.out (by omega) (by omega) (by omega) (by omega) HB.out.1).mono ?_
    rintro e4 w4 ⟨x, rfl, x1, x2, m4, hC4, hm4, ht4⟩
    have HT4 := Hid.mk (to_of_cn HG.out hC4 (HT0.out.trans ht4 (fun _ _ h => h)))
    have c4 := hC4.cell
    clear hC4 ht4 HT0 hm4
    by_cases z0 : m4 = 0
    · subst z0
      go_wp2
      go_ret2
      exact ⟨x, 1, rfl, x1, x2, by omega, HT4.out⟩
    · by_cases z12 : m4 = 12
      · subst z12
        go_wp2
        go_ret2
        exact ⟨x, 2, rfl, x1, x2, by omega, HT4.out⟩
      · go_wp2
        go_ret2
        exact ⟨x, 0, rfl, x1, x2, by omega, HT4.out⟩
end Go.Proofs.Ytiedlkhbbnjkbaa
