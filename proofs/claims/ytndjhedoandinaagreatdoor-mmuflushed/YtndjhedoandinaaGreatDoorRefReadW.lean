/- The document's Read. -/
import Derived.Test.YtndjhedoandinaaGreatDoorRefPairsW
import Derived.Deep.DeepCutAuto
namespace Go.Proofs.YtndjhedoandinaaGreatDoor
open Go.RowKit Go.Maps

set_option maxRecDepth 100000 in
set_option maxHeartbeats 4000000 in
theorem rread_c {w : World} {B : Nat → Prop} {S : Nat} {v : Value} {L : WL} {f : Nat → Nat} (hP : Psl w B v L) (hR : Ref L f) (hlen : L.length < 100000000) (x : Nat) (hout : errA S x ≠ 0 → f x = 0) :
    Calls Tryz.prog 71 #[.agg #[.int .u64 (S : Nat), v], .int .u64 (x : Nat)] w fun e w' => e = .returned (.tuple #[.int .u64 (f x : Nat), .int .i64 (errA S x)]) ∧ Below w.heap.size w w' := by
  obtain ⟨p, cap, rfl, hc⟩ := hP.form
  have HR := Hid.mk hR
  have hm := fun w => may_c S x (.slice p L.length cap) w
  generalize errA S x = E at *
  generalize hN : L.length = N at *
  have HN := Hid.mk hN
  have HC := Hid.mk hc
  have HOUT := Hid.mk hout
  clear hc hP hR hN hout
  go_enter Tryz.func71, Tryz.ntmps71
  go_wp2_with fail
  refine (hm _).mono ?_
  rintro e w1 ⟨rfl, hb⟩
  have c1 : w1.cell? ⟨w.heap.size, 1, none⟩ = some (.slice p N cap) := boxed hb 1
  have HB := Hid.mk hb
  clear hm hb
  by_cases hE : E = 0
  · subst hE
    go_wp2
    go_loop [7] (fun s => ∃ i : Nat, i ≤ N ∧ s = .int .i64 i ∧ ∀ j, j < i → L[j]!.1 ≠ x) (fun s => N - (intOf s).toNat)
    case atStart => exact ⟨0, by omega, rfl, fun j hj => by omega⟩
    case round =>
      obtain ⟨i, hi, rfl, hno⟩ := hrel
      have HNO := Hid.mk hno
      clear hno
      by_cases hlt : i < N
      · obtain ⟨g, rfl, hg, q1, q2⟩ := HC.out i hlt
        have d1 := (HB.out.cell (p := ⟨g, i * 2, none⟩) (by simp; omega)).trans ((Below.refl _ w).alloc (Nat.le_refl _) (.cells #[.int .u64 (S : Nat), .slice (some ⟨g, 0, none⟩) N cap] 29) |>.cell (p := ⟨g, i * 2, none⟩) hg |>.trans q1)
        have d2 := (HB.out.cell (p := ⟨g, i * 2 + 1, none⟩) (by simp; omega)).trans ((Below.refl _ w).alloc (Nat.le_refl _) (.cells #[.int .u64 (S : Nat), .slice (some ⟨g, 0, none⟩) N cap] 29) |>.cell (p := ⟨g, i * 2 + 1, none⟩) hg |>.trans q2)
        have hmem := HR.out.mem (i := i) (by rw [HN.out]; exact hlt)
        generalize hp : L[i]! = pr at *
        have HP := Hid.mk hp
        clear hp q1 q2
        obtain ⟨y, z⟩ := pr
        simp only at d1 d2 hmem
        by_cases he : y = x
        · subst he
          obtain ⟨rfl, _⟩ := hmem
          go_wp2
          go_ret2
          exact ⟨rfl, below_tr ((Below.refl _ _).alloc (Nat.le_refl _) _) HB.out⟩
        · have he2 : ¬ ((y : Int) = x) := by omega
          go_wp2
          refine ⟨⟨i + 1, by omega, by go_num, fun j hj => ?_⟩, by simp [intOf]; omega⟩
          by_cases q : j = i
          · subst q; rw [HP.out]; exact he
          · exact HNO.out j (by omega)
      · obtain rfl : i = N := by omega
        have hz : f x = 0 := HR.out.zero (fun j hj => HNO.out j (by rw [← HN.out]; exact hj))
        have HZ := Hid.mk hz
        clear hz
        go_wp2
        go_ret2
        exact ⟨by rw [HZ.out]; rfl, below_tr ((Below.refl _ _).alloc (Nat.le_refl _) _) HB.out⟩
  · have HZ := Hid.mk (HOUT.out hE)
    go_wp2
    go_ret2
    exact ⟨by rw [HZ.out]; rfl, below_tr ((Below.refl _ _).alloc (Nat.le_refl _) _) HB.out⟩
end Go.Proofs.YtndjhedoandinaaGreatDoor
