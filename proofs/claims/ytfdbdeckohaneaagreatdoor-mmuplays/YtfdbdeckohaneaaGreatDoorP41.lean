/- P41 -/
import Derived.Test.YtfdbdeckohaneaaGreatDoorP27
set_option maxHeartbeats 16000000
set_option maxRecDepth 100000
namespace Go.Proofs.YtfdbdeckohaneaaGreatDoor.TR
open Go.RowKit
theorem lv_pred {l : Int} (h1 : 1 ≤ l) (h3 : l ≤ 3) : isLv (l - 1) = true := by unfold isLv; rw [decide_eq_true_eq]; omega
theorem rleads_any (e : En) (h1 : 1 ≤ e.lv) (h3 : e.lv ≤ 3) (i : Int) (x : Nat) (hx : x < 18446744073709551616) (w : World) :
  Calls Tryz.prog 104 #[e.v, .int .i64 i, .int .u64 x] w fun r w' => r = .returned (.bool (mB e i x)) ∧ Below w.heap.size w w' := by
 unfold mB
 obtain ⟨a0, a1, a2, a3⟩ := e
 simp only [En.v] at *
 have hlv := lv_pred h1 h3
 by_cases h0 : a0 = i
 ·rw [decide_eq_true h0, Bool.true_and]
  subst h0
  by_cases hl : x < 281474976710656
  ·have dl : decide ((x : Int) < 281474976710656) = true := decide_eq_true (by omega)
   have HE : Hid ((lowB x && qdd a1 x (a2 - 1)) = ((qbn x (a2 - 1) : Int) == (a1 : Int))) := by
    show _ = _
    unfold lowB qdd
    rw [decide_eq_true hl, hlv, Bool.true_and, Bool.true_and, Bool.eq_iff_iff, decide_eq_true_eq, beq_iff_eq]; omega
   have hBc := fun W => qcz x (a2 - 1) hlv hx W
   have hw1 : IntKind.i64.wrap (a2 - 1) = a2 - 1 := by rw [IntKind.wrap_i64]; omega
   clear hlv hl
   generalize qbn x (a2 - 1) = bv at *
   generalize (lowB x && qdd a1 x (a2 - 1)) = RES at *
   go_enter Tryz.func104, Tryz.ntmps104
   go_upto_region 1 with fail
   have hK0 := heap_alloc_new w (.cells #[.int .i64 a0, .int .u64 a1, .int .i64 a2, .int .u64 a3] 97)
   have hB0 := qac w (.cells #[.int .i64 a0, .int .u64 a1, .int .i64 a2, .int .u64 a3] 97)
   generalize w.alloc (.cells #[.int .i64 a0, .int .u64 a1, .int .i64 a2, .int .u64 a3] 97) = w1 at *
   obtain ⟨k0, k1, k2, k3⟩ := qca hK0
   clear hK0
   refine wp_region_noPanic ?_
   refine wp_region_held_drew (S := (fun w' => w'.cell? ⟨w.heap.size, 0, none⟩ = some (.int .i64 a0) ∧ w'.cell? ⟨w.heap.size, 1, none⟩ = some (.int .u64 a1) ∧ w'.cell? ⟨w.heap.size, 2, none⟩ = some (.int .i64 a2) ∧ w'.cell? ⟨w.heap.size, 3, none⟩ = some (.int .u64 a3) ∧ Below w.heap.size w w')) (by kernel_rfl) ?_ (fun hHeld => ?_)
   ·exact ⟨cell_later (Below.refl _ _).drew k0, cell_later (Below.refl _ _).drew k1, cell_later (Below.refl _ _).drew k2, cell_later (Below.refl _ _).drew k3, hB0.drew⟩
   refine tk 0 7 (h := ?_)
   refine tk 1 8 (h := ?_)
   refine tk 2 9 (h := ?_)
   refine tk 3 10 (h := ?_)
   refine tk 4 11 (h := ?_)
   refine tk 5 12 (h := ?_)
   refine tk 6 13 (h := ?_)
   refine tk 7 14 (h := ?_)
   refine tk 8 15 (h := ?_)
   refine tk 9 16 (h := ?_)
   refine tk 10 17 (h := ?_)
   refine tk 11 18 (h := ?_)
   refine tk 12 19 (h := ?_)
   refine tk 14 21 (h := ?_)
   refine tk 15 22 (h := ?_)
   refine rd1 13 (h := fun K hK => ?_)
   go_simp
   refine (hBc _).mono ?_
   rintro e v1 ⟨rfl, hbm⟩
   go_wp2_with fail
   have hbd := qab (Below.refl _ w1).drew hbm
   have hB1 : Below w.heap.size w v1 := qab hB0.drew hbm
   refine hK.out _ _ ⟨cell_later hbd k0, cell_later hbd k1, cell_later hbd k2, cell_later hbd k3, hB1⟩ (fun hHeld1 => ?_)
   clear hK hbm hHeld hbd k0 k1 k2 k3 hB0 hBc
   try simp only [Act.put, sq]
   refine tk 16 23 (h := ?_)
   refine tk 17 24 (h := ?_)
   refine tk 18 6 (h := ?_)
   refine wpAnyH_done (by kernel_rfl) ?_ _
   refine NoPanic.normal ?_
   go_wp2
   go_ret
   exact ⟨by rw [HE.out]; rfl, hB1⟩
  ·have dl : decide ((x : Int) < 281474976710656) = false := decide_eq_false (by omega)
   have HE : Hid ((lowB x && qdd a1 x (a2 - 1)) = false) := by
    show _ = _
    unfold lowB
    rw [decide_eq_false hl]; rfl
   generalize (lowB x && qdd a1 x (a2 - 1)) = RES at *
   go_enter Tryz.func104, Tryz.ntmps104
   go_wp2
   go_quiet (fail)
   go_wp2
   go_ret
   exact ⟨by rw [HE.out]; rfl, qav (qac _ _) _⟩
 ·rw [decide_eq_false h0, Bool.false_and]
  have d0 : (a0 == i) = false := by rw [beq_eq_false_iff_ne]; exact h0
  go_enter Tryz.func104, Tryz.ntmps104
  go_wp2
  go_quiet (fail)
  go_wp2
  go_ret
  exact ⟨rfl, qav (qac _ _) _⟩
theorem right_form (e : En) (he : e.ok) : qbe e = (decide (0 ≤ e.aid ∧ e.aid ≤ 255 ∧ 1 ≤ e.lv ∧ e.lv ≤ 3) && (decide (e.va < 281474976710656) && (decide (qbn e.va (e.lv - 1) = e.va) && (decide (e.tb < 281474976710656) && decide (e.tb % 4096 = 0))))) := by
 unfold qbe
 by_cases h : 0 ≤ e.aid ∧ e.aid ≤ 255 ∧ 1 ≤ e.lv ∧ e.lv ≤ 3
 ·rw [decide_eq_true h, Bool.true_and, Bool.true_and]
  have hT : tabB e.tb = (decide (e.tb < 281474976710656) && decide (e.tb % 4096 = 0)) := by
   unfold tabB
   rw [rest_out e.tb he.2, Bool.eq_iff_iff]
   simp only [Bool.and_eq_true, decide_eq_true_eq, beq_iff_eq]
   constructor
   ·intro h1; exact ⟨by omega, by omega⟩
   ·rintro ⟨h1, h2⟩; omega
  rw [hT]
  unfold mB lowB qdd
  rw [lv_pred h.2.2.1 h.2.2.2, decide_eq_true (rfl : e.aid = e.aid)]
  cases decide (e.tb < 281474976710656) <;> cases decide (e.tb % 4096 = 0) <;> cases decide (e.va < 281474976710656) <;> cases decide (qbn e.va (e.lv - 1) = e.va) <;> rfl
 ·rw [decide_eq_false h]; rfl
theorem zP41x01 {Z : Prop} (z : Z := by
 refine tk 13 39 (h := ?_)
 refine tk 14 40 (h := ?_)
 refine qbo (i := 15) (v := undef) 41 rfl rfl (by kernel_rfl) (by kernel_rfl) (by kernel_rfl) (fun _ _ _ h => h) (Or.inr ⟨by rfl, rfl⟩) (by assumption) ?_
 try simp only [Act.put, sq]
 refine qbo (i := 16) (v := undef) 42 rfl rfl (by kernel_rfl) (by kernel_rfl) (by kernel_rfl) (fun _ _ _ h => h) (Or.inr ⟨by rfl, rfl⟩) (by assumption) ?_
 try simp only [Act.put, sq]
 refine qbo (i := 17) (v := undef) 43 rfl rfl (by kernel_rfl) (by kernel_rfl) (by kernel_rfl) (fun _ _ _ h => h) (Or.inr ⟨by rfl, rfl⟩) (by assumption) ?_
 try simp only [Act.put, sq]
 refine qbo (i := 18) (v := undef) 44 rfl rfl (by kernel_rfl) (by kernel_rfl) (by kernel_rfl) (fun _ _ _ h => h) (Or.inr ⟨by rfl, rfl⟩) (by assumption) ?_
 try simp only [Act.put, sq]
 refine tk 19 45 (h := ?_)
 refine tk 20 2 (h := ?_)
 refine wpAnyH_done (by kernel_rfl) ?_ _
 refine NoPanic.normal ?_
 go_wp2
 go_ret
 exact ⟨by rw [HE.out]; rfl, hB1⟩) : Z := z
theorem zP41x02 {Z : Prop} (z : Z := by
 go_enter Tryz.func143, Tryz.ntmps143
 go_wp2
 all_goals go_ret
 all_goals exact ⟨by rw [HE.out]; rfl, qac _ _⟩) : Z := z
theorem rright_any (e : En) (he : e.ok) (w : World) :
  Calls Tryz.prog 143 #[e.v] w fun r w' => r = .returned (.bool (qbe e)) ∧ Below w.heap.size w w' := by
 have HE := Hid.mk (right_form e he)
 generalize qbe e = RE at *
 have hva := he.1
 clear he
 obtain ⟨a0, a1, a2, a3⟩ := e
 simp only [En.v] at *
 by_cases c0 : 0 ≤ a0
 ·by_cases c1 : a0 ≤ 255
  ·by_cases c2 : 1 ≤ a2
   ·by_cases c3 : a2 ≤ 3
    ·by_cases c4 : a1 < 281474976710656
     ·rw [decide_eq_true (show 0 ≤ a0 ∧ a0 ≤ 255 ∧ 1 ≤ a2 ∧ a2 ≤ 3 from ⟨c0, c1, c2, c3⟩), decide_eq_true c4, Bool.true_and, Bool.true_and] at HE
      have d0 : decide (a0 < 0) = false := decide_eq_false (by omega)
      have d1 : decide (255 < a0) = false := decide_eq_false (by omega)
      have d2 : decide (a2 < 1) = false := decide_eq_false (by omega)
      have d3 : decide (3 < a2) = false := decide_eq_false (by omega)
      have d4 : decide (281474976710656 ≤ (a1 : Int)) = false := decide_eq_false (by omega)
      have hlv := lv_pred c2 c3
      have hBc := fun W => qcz a1 (a2 - 1) hlv hva W
      have hw1 : IntKind.i64.wrap (a2 - 1) = a2 - 1 := by rw [IntKind.wrap_i64]; omega
      clear hlv
      generalize qbn a1 (a2 - 1) = bv at *
      by_cases c5 : bv = a1
      ·have e5 : ((bv : Int) == (a1 : Int)) = true := by rw [beq_iff_eq]; omega
       rw [decide_eq_true c5, Bool.true_and] at HE
       by_cases c6 : a3 < 281474976710656
       ·have e6 : decide ((a3 : Int) < 281474976710656) = true := decide_eq_true (by omega)
        have HE2 : Hid (RE = ((a3 : Int) % 4096 == 0)) := by
         show RE = _
         rw [HE.out, decide_eq_true c6, Bool.true_and, Bool.eq_iff_iff, decide_eq_true_eq, beq_iff_eq]; omega
        clear HE
        go_enter Tryz.func143, Tryz.ntmps143
        go_upto_region 3 with fail
        have hK0 := heap_alloc_new w (.cells #[.int .i64 a0, .int .u64 a1, .int .i64 a2, .int .u64 a3] 97)
        have hB0 := qac w (.cells #[.int .i64 a0, .int .u64 a1, .int .i64 a2, .int .u64 a3] 97)
        generalize w.alloc (.cells #[.int .i64 a0, .int .u64 a1, .int .i64 a2, .int .u64 a3] 97) = w1 at *
        obtain ⟨k0, k1, k2, k3⟩ := qca hK0
        clear hK0
        refine wp_region_noPanic ?_
        refine wp_region_held_drew (S := (fun w' => w'.cell? ⟨w.heap.size, 0, none⟩ = some (.int .i64 a0) ∧ w'.cell? ⟨w.heap.size, 1, none⟩ = some (.int .u64 a1) ∧ w'.cell? ⟨w.heap.size, 2, none⟩ = some (.int .i64 a2) ∧ w'.cell? ⟨w.heap.size, 3, none⟩ = some (.int .u64 a3) ∧ Below w.heap.size w w')) (by kernel_rfl) ?_ (fun hHeld => ?_)
        ·exact ⟨cell_later (Below.refl _ _).drew k0, cell_later (Below.refl _ _).drew k1, cell_later (Below.refl _ _).drew k2, cell_later (Below.refl _ _).drew k3, hB0.drew⟩
        refine tk 0 26 (h := ?_)
        refine tk 1 27 (h := ?_)
        refine tk 2 28 (h := ?_)
        refine tk 3 29 (h := ?_)
        refine tk 4 30 (h := ?_)
        refine tk 6 32 (h := ?_)
        refine tk 7 33 (h := ?_)
        refine rd1 5 (h := fun K hK => ?_)
        go_simp
        refine (hBc _).mono ?_
        rintro e v1 ⟨rfl, hbm⟩
        go_wp2_with fail
        have hbd := qab (Below.refl _ w1).drew hbm
        have hB1 : Below w.heap.size w v1 := qab hB0.drew hbm
        refine hK.out _ _ ⟨cell_later hbd k0, cell_later hbd k1, cell_later hbd k2, cell_later hbd k3, hB1⟩ (fun hHeld1 => ?_)
        clear hK hbm hHeld hbd k0 k1 k2 k3 hB0 hBc
        try simp only [Act.put, sq]
        refine tk 8 34 (h := ?_)
        refine tk 9 35 (h := ?_)
        refine tk 10 36 (h := ?_)
        refine tk 11 37 (h := ?_)
        refine tk 12 38 (h := ?_)
        refine tk 13 39 (h := ?_)
        refine tk 14 40 (h := ?_)
        refine tk 15 41 (h := ?_)
        refine tk 16 42 (h := ?_)
        refine tk 17 43 (h := ?_)
        refine tk 18 44 (h := ?_)
        refine tk 19 45 (h := ?_)
        refine tk 20 2 (h := ?_)
        refine wpAnyH_done (by kernel_rfl) ?_ _
        refine NoPanic.normal ?_
        go_wp2
        go_ret
        exact ⟨by rw [HE2.out]; rfl, hB1⟩
       ·have e6 : decide ((a3 : Int) < 281474976710656) = false := decide_eq_false (by omega)
        rw [decide_eq_false c6, Bool.false_and] at HE
        go_enter Tryz.func143, Tryz.ntmps143
        go_upto_region 3 with fail
        have hK0 := heap_alloc_new w (.cells #[.int .i64 a0, .int .u64 a1, .int .i64 a2, .int .u64 a3] 97)
        have hB0 := qac w (.cells #[.int .i64 a0, .int .u64 a1, .int .i64 a2, .int .u64 a3] 97)
        generalize w.alloc (.cells #[.int .i64 a0, .int .u64 a1, .int .i64 a2, .int .u64 a3] 97) = w1 at *
        obtain ⟨k0, k1, k2, k3⟩ := qca hK0
        clear hK0
        refine wp_region_noPanic ?_
        refine wp_region_held_drew (S := (fun w' => w'.cell? ⟨w.heap.size, 0, none⟩ = some (.int .i64 a0) ∧ w'.cell? ⟨w.heap.size, 1, none⟩ = some (.int .u64 a1) ∧ w'.cell? ⟨w.heap.size, 2, none⟩ = some (.int .i64 a2) ∧ w'.cell? ⟨w.heap.size, 3, none⟩ = some (.int .u64 a3) ∧ Below w.heap.size w w')) (by kernel_rfl) ?_ (fun hHeld => ?_)
        ·exact ⟨cell_later (Below.refl _ _).drew k0, cell_later (Below.refl _ _).drew k1, cell_later (Below.refl _ _).drew k2, cell_later (Below.refl _ _).drew k3, hB0.drew⟩
        refine tk 0 26 (h := ?_)
        refine tk 1 27 (h := ?_)
        refine tk 2 28 (h := ?_)
        refine tk 3 29 (h := ?_)
        refine tk 4 30 (h := ?_)
        refine tk 6 32 (h := ?_)
        refine tk 7 33 (h := ?_)
        refine rd1 5 (h := fun K hK => ?_)
        go_simp
        refine (hBc _).mono ?_
        rintro e v1 ⟨rfl, hbm⟩
        go_wp2_with fail
        have hbd := qab (Below.refl _ w1).drew hbm
        have hB1 : Below w.heap.size w v1 := qab hB0.drew hbm
        refine hK.out _ _ ⟨cell_later hbd k0, cell_later hbd k1, cell_later hbd k2, cell_later hbd k3, hB1⟩ (fun hHeld1 => ?_)
        clear hK hbm hHeld hbd k0 k1 k2 k3 hB0 hBc
        try simp only [Act.put, sq]
        refine tk 8 34 (h := ?_)
        refine tk 9 35 (h := ?_)
        refine tk 10 36 (h := ?_)
        refine tk 11 37 (h := ?_)
        refine tk 12 38 (h := ?_)
        exact zP41x01
      ·have e5 : ((bv : Int) == (a1 : Int)) = false := by rw [beq_eq_false_iff_ne]; omega
       rw [decide_eq_false c5, Bool.false_and] at HE
       go_enter Tryz.func143, Tryz.ntmps143
       go_upto_region 3 with fail
       have hK0 := heap_alloc_new w (.cells #[.int .i64 a0, .int .u64 a1, .int .i64 a2, .int .u64 a3] 97)
       have hB0 := qac w (.cells #[.int .i64 a0, .int .u64 a1, .int .i64 a2, .int .u64 a3] 97)
       generalize w.alloc (.cells #[.int .i64 a0, .int .u64 a1, .int .i64 a2, .int .u64 a3] 97) = w1 at *
       obtain ⟨k0, k1, k2, k3⟩ := qca hK0
       clear hK0
       refine wp_region_noPanic ?_
       refine wp_region_held_drew (S := (fun w' => w'.cell? ⟨w.heap.size, 0, none⟩ = some (.int .i64 a0) ∧ w'.cell? ⟨w.heap.size, 1, none⟩ = some (.int .u64 a1) ∧ w'.cell? ⟨w.heap.size, 2, none⟩ = some (.int .i64 a2) ∧ w'.cell? ⟨w.heap.size, 3, none⟩ = some (.int .u64 a3) ∧ Below w.heap.size w w')) (by kernel_rfl) ?_ (fun hHeld => ?_)
       ·exact ⟨cell_later (Below.refl _ _).drew k0, cell_later (Below.refl _ _).drew k1, cell_later (Below.refl _ _).drew k2, cell_later (Below.refl _ _).drew k3, hB0.drew⟩
       refine tk 0 26 (h := ?_)
       refine tk 1 27 (h := ?_)
       refine tk 2 28 (h := ?_)
       refine tk 3 29 (h := ?_)
       refine tk 4 30 (h := ?_)
       refine tk 6 32 (h := ?_)
       refine tk 7 33 (h := ?_)
       refine rd1 5 (h := fun K hK => ?_)
       go_simp
       refine (hBc _).mono ?_
       rintro e v1 ⟨rfl, hbm⟩
       go_wp2_with fail
       have hbd := qab (Below.refl _ w1).drew hbm
       have hB1 : Below w.heap.size w v1 := qab hB0.drew hbm
       refine hK.out _ _ ⟨cell_later hbd k0, cell_later hbd k1, cell_later hbd k2, cell_later hbd k3, hB1⟩ (fun hHeld1 => ?_)
       clear hK hbm hHeld hbd k0 k1 k2 k3 hB0 hBc
       try simp only [Act.put, sq]
       refine tk 8 34 (h := ?_)
       refine tk 9 35 (h := ?_)
       refine qbo (i := 10) (v := undef) 36 rfl rfl (by kernel_rfl) (by kernel_rfl) (by kernel_rfl) (fun _ _ _ h => h) (Or.inr ⟨by rfl, rfl⟩) (by assumption) ?_
       try simp only [Act.put, sq]
       refine qbo (i := 11) (v := undef) 37 rfl rfl (by kernel_rfl) (by kernel_rfl) (by kernel_rfl) (fun _ _ _ h => h) (Or.inr ⟨by rfl, rfl⟩) (by assumption) ?_
       try simp only [Act.put, sq]
       refine qbo (i := 12) (v := undef) 38 rfl rfl (by kernel_rfl) (by kernel_rfl) (by kernel_rfl) (fun _ _ _ h => h) (Or.inr ⟨by rfl, rfl⟩) (by assumption) ?_
       try simp only [Act.put, sq]
       exact zP41x01
     ·rw [decide_eq_false c4, Bool.false_and, Bool.and_false] at HE
      have d0 : decide (a0 < 0) = false := decide_eq_false (by omega)
      have d1 : decide (255 < a0) = false := decide_eq_false (by omega)
      have d2 : decide (a2 < 1) = false := decide_eq_false (by omega)
      have d3 : decide (3 < a2) = false := decide_eq_false (by omega)
      have d4 : decide (281474976710656 ≤ (a1 : Int)) = true := decide_eq_true (by omega)
      exact zP41x02
    ·rw [decide_eq_false (show ¬ (0 ≤ a0 ∧ a0 ≤ 255 ∧ 1 ≤ a2 ∧ a2 ≤ 3) by omega), Bool.false_and] at HE
     have d0 : decide (a0 < 0) = false := decide_eq_false (by omega)
     have d1 : decide (255 < a0) = false := decide_eq_false (by omega)
     have d2 : decide (a2 < 1) = false := decide_eq_false (by omega)
     have d3 : decide (3 < a2) = true := decide_eq_true (by omega)
     exact zP41x02
   ·rw [decide_eq_false (show ¬ (0 ≤ a0 ∧ a0 ≤ 255 ∧ 1 ≤ a2 ∧ a2 ≤ 3) by omega), Bool.false_and] at HE
    have d0 : decide (a0 < 0) = false := decide_eq_false (by omega)
    have d1 : decide (255 < a0) = false := decide_eq_false (by omega)
    have d2 : decide (a2 < 1) = true := decide_eq_true (by omega)
    exact zP41x02
  ·rw [decide_eq_false (show ¬ (0 ≤ a0 ∧ a0 ≤ 255 ∧ 1 ≤ a2 ∧ a2 ≤ 3) by omega), Bool.false_and] at HE
   have d0 : decide (a0 < 0) = false := decide_eq_false (by omega)
   have d1 : decide (255 < a0) = true := decide_eq_true (by omega)
   exact zP41x02
 ·rw [decide_eq_false (show ¬ (0 ≤ a0 ∧ a0 ≤ 255 ∧ 1 ≤ a2 ∧ a2 ≤ 3) by omega), Bool.false_and] at HE
  have d0 : decide (a0 < 0) = true := decide_eq_true (by omega)
  exact zP41x02
end Go.Proofs.YtfdbdeckohaneaaGreatDoor.TR
