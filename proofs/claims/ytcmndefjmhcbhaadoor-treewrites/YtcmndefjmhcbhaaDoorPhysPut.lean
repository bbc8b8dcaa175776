/- Write. -/
import Derived.Test.YtcmndefjmhcbhaaDoorPhysClr
namespace Go.Proofs.YtcmndefjmhcbhaaDoor
open Go.RowKit Go.Maps

/-- The words behind Write(x, v). -/
def wrF (f : Nat → Nat) (S x v : Nat) : Nat → Nat := if errA S x = 0 then updF f x v else f

theorem err_ok {S x : Nat} (he : errA S x = 0) : x % 8 = 0 ∧ x < S := by
  unfold errA at he
  by_cases q : x % 8 = 0
  · rw [if_neg (fun c => c q)] at he
    by_cases q2 : S ≤ x
    · rw [if_pos q2] at he; cases he
    · exact ⟨q, by omega⟩
  · rw [if_pos q] at he; cases he

theorem pcell {w : World} {b i : Nat} {g : Nat → Nat} {t : TypeId} (h : w.heap[b]? = some (.cells (prow g) t (0, 0))) (hi : i < 512) : w.cell? ⟨b, i, none⟩ = some (.int .u64 (g i : Nat)) := by
  rw [cell_of_row _ _ _ _ _ _ h, prow_get _ _ hi]
theorem gr_lt {w w' : World} {X : Nat → Prop} (hX : ∀ i, X i → i < w.heap.size) (hs : w.heap.size ≤ w'.heap.size) : ∀ i, Gr X w w' i → i < w'.heap.size := fun i hi => by
  rcases hi with hi | hi
  · exact Nat.lt_of_lt_of_le (hX i hi) hs
  · exact hi.2

set_option maxRecDepth 100000 in
set_option maxHeartbeats 1000000 in
theorem write_c {w : World} {X : Nat → Prop} {a S n : Nat} {f : Nat → Nat} (h : MemAt w X a S n f) (hn : n < 100000000) (x v : Nat) (hx : x < 18446744073709551616) (hv : v < 18446744073709551616) :
    Calls Tryd.prog 17 #[.pointer (some ⟨a, 0, none⟩), .int .u64 x, .int .u64 v] w fun e w' => e = .returned (.int .i64 (errA S x)) ∧ MemAt w' (Gr X w w') a S (n + 1) (wrF f S x v) ∧ Turn X w w' := by
  obtain ⟨mb, pg, h⟩ := h
  have c0 := h.c0
  have hck := check_c x hx c0
  by_cases he : errA S x = 0
  · obtain ⟨h8, hS⟩ := err_ok he
    have hwr : wrF f S x v = updF f x v := by unfold wrF; rw [if_pos he]
    have hdl : dn x < 18446744073709551616 := Nat.lt_of_le_of_lt (dn_le x) hx
    have hs0 := h.s0
    rw [hwr]
    rw [he] at hck ⊢
    by_cases hv0 : v = 0
    · subst hv0
      have hcl := clr_c h (dn x) x (x + 8) (dn_mod x) (by have := dn_le x; omega) (dn_lt x) (by omega) (by have := dn_le x; omega) h8 (by omega) (by omega)
      have hcast : ((x + 8 : Nat) : Int) = (x : Int) + 8 := by omega
      rw [hcast] at hcl
      have HH : Hid (Mem w X a S n f mb pg) := h
      clear h hcast
      go_enter Tryd.func17, Tryd.ntmps17
      go_wp2_with fail
      refine hck.mono ?_
      rintro e w1 ⟨rfl, rfl⟩
      go_wp2_with fail
      refine (down_c x hx _).mono ?_
      rintro e w1 ⟨rfl, rfl⟩
      go_wp2_with fail
      refine hcl.mono ?_
      rintro e w1 ⟨rfl, hp⟩
      have HP : Hid (ClrPost w f mb pg (dn x) x (x + 8) w1) := hp
      clear hp hcl
      go_wp2
      go_ret
      have h := HH.out
      obtain ⟨hm, ht⟩ := HP.out.mem h (dn_mod x) hdl
      have hf : clrP f (dn x) x (x + 8) = updF f x 0 := by
        funext y
        unfold clrP updF
        by_cases e : y = x
        · subst e
          rw [if_pos rfl, if_pos ⟨by omega, by omega, rfl⟩]
        · rw [if_neg e]
          by_cases c : x ≤ y ∧ y < x + 8 ∧ dn y = dn x
          · rw [if_pos c]
            exact (h.out y (Or.inl (by omega))).symm
          · rw [if_neg c]
      rw [hf] at hm
      refine ⟨rfl, ⟨mb, clrPg f pg (dn x) x (x + 8), ?_⟩, ht⟩
      have hm2 : Mem w1 X a S (n + 1) (updF f x 0) mb (clrPg f pg (dn x) x (x + 8)) := { hm with pgs := hm.pgs.mono (by omega) }
      exact hm2.wide (fun i hi => Or.inl hi) (gr_lt h.xlt ht.size)
    · have hd : Mem w.drew X a S n f mb pg := h.kept (fun _ _ => rfl) (Nat.le_refl _)
      have hop := open_c hd hn (dn x) hdl (dn_mod x)
      have hplace := place_c x hx
      have hpl := plc_lt x
      have HH : Hid (Mem w.drew X a S n f mb pg) := hd
      have HN : Hid (v ≠ 0) := hv0
      have hvz : ¬ ((v : Int) = 0) := by omega
      clear h hd hv0
      go_enter Tryd.func17, Tryd.ntmps17
      go_wp2_with fail
      refine hck.mono ?_
      rintro e w1 ⟨rfl, rfl⟩
      go_wp2
      go_region_with (first
        | (go_at_call 39; refine (down_c x hx _).mono ?_; rintro e w1 ⟨rfl, rfl⟩)
        | (go_at_call 41; refine (hplace _).mono ?_; rintro e w1 ⟨rfl, rfl⟩)
        | (go_at_call 40; refine hop.mono ?_; rintro e w1 ⟨b, rfl, hall⟩; have hc := pcell hall.2.1 hpl; have hfz := frozen_of_row _ _ (plc x) _ _ hall.2.1; have HA := Hid.mk hall; clear hall))
      all_goals
        go_wp2
        go_ret
        obtain ⟨hb, hrow, hP, hT⟩ := HA.out
        obtain ⟨hm, ht⟩ := HH.out.wrote x v h8 hS HN.out hv hb hrow hP hT
        exact ⟨rfl, ⟨mb, _, hm⟩, (turn_of_below X (Below.refl _ w).drew).trans ht (fun i _ hi => hi)⟩
  · have hwr : wrF f S x v = f := by unfold wrF; rw [if_neg he]
    rw [hwr]
    have HH : Hid (Mem w X a S n f mb pg) := h
    clear h hwr
    generalize errA S x = E at *
    go_enter Tryd.func17, Tryd.ntmps17
    go_wp2_with fail
    refine hck.mono ?_
    rintro e w1 ⟨rfl, rfl⟩
    go_wp2
    go_ret
    have h := HH.out
    have hm2 : Mem w X a S (n + 1) f mb pg := { h with pgs := h.pgs.mono (by omega) }
    exact ⟨rfl, ⟨mb, pg, hm2.wide (fun i hi => Or.inl hi) (gr_lt h.xlt (Nat.le_refl _))⟩, Turn.refl _ _⟩
end Go.Proofs.YtcmndefjmhcbhaaDoor
