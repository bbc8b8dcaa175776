/- The library's sort at words: the row that is sorted, cmp.Less, reverseRange. -/
import Derived.Test.YtiedlkhbbnjkbaaPhysPut
import Derived.Sort.AssemblyPlain
import Derived.RegionTactic
import Derived.Deep.RegionWith
namespace Go.Proofs.Ytiedlkhbbnjkbaa
open Go.RowKit
open Go.Sort (swp ltInt PermIn SortedIn)

/-- Block g holds the words d, from its first cell on. -/
def Rw (w : World) (g : Nat) (d : Array Int) : Prop := ∀ j, j < d.size → w.cell? ⟨g, j, none⟩ = some (.int .u64 d[j]!) ∧ w.frozen? ⟨g, j, none⟩ = false

/-- w' is w but for block g, which holds d', and new blocks. -/
def To (g : Nat) (w : World) (d' : Array Int) (w' : World) : Prop := Rw w' g d' ∧ Turn (fun i => i = g) w w' ∧ g < w.heap.size

theorem To.refl {g : Nat} {w : World} {d : Array Int} (h : Rw w g d) (hg : g < w.heap.size) : To g w d w := ⟨h, Turn.refl _ _, hg⟩
theorem To.trans {g : Nat} {w w1 w2 : World} {d1 d2 : Array Int} (h : To g w d1 w1) (k : To g w1 d2 w2) : To g w d2 w2 := ⟨k.1, h.2.1.trans k.2.1 (fun _ _ hi => hi), h.2.2⟩
theorem Rw.drew {g : Nat} {w : World} {d : Array Int} (h : Rw w g d) : Rw w.drew g d := h
theorem To.drew {g : Nat} {w w1 : World} {d1 : Array Int} (h : To g w d1 w1) : To g w d1 w1.drew := ⟨h.1, ⟨h.2.1.os, h.2.1.tape, h.2.1.output, h.2.1.size, h.2.1.block⟩, h.2.2⟩
theorem To.lt {g : Nat} {w w1 : World} {d1 : Array Int} (h : To g w d1 w1) : g < w1.heap.size := Nat.lt_of_lt_of_le h.2.2 h.2.1.size
/-- The row as it is, in a world that has new blocks. -/
theorem Rw.below {g : Nat} {w w1 : World} {d : Array Int} (h : Rw w g d) (hg : g < w.heap.size) (hb : Below w.heap.size w w1) : Rw w1 g d := fun j hj =>
  ⟨(hb.cell (p := ⟨g, j, none⟩) hg).trans (h j hj).1, (hb.frozen (p := ⟨g, j, none⟩) hg).trans (h j hj).2⟩
theorem To.below {g : Nat} {w w1 w2 : World} {d : Array Int} (h : To g w d w1) (hb : Below w1.heap.size w1 w2) : To g w d w2 :=
  h.trans ⟨h.1.below h.lt hb, turn_of_below _ hb, h.lt⟩

theorem cell_set_some {w : World} {a b : Addr} {u v : Value} (h : w.cell? b = some u) (ha : a.spot = none) : ∃ z, (w.setCell a v).cell? b = some z := by
  by_cases hb : b.block = a.block
  · unfold World.cell? at h ⊢
    unfold World.setCell
    rw [hb] at h
    simp only [hb, Array.getElem?_modify, if_true]
    cases hh : w.heap[a.block]? with
    | none => rw [hh] at h; cases h
    | some o =>
      rw [hh] at h
      cases o with
      | cells c e fr =>
        simp only [Option.map_some, ha, Option.isSome_none, Bool.false_eq_true, if_false] at h ⊢
        by_cases hs : b.spot.isSome = true
        · rw [if_pos hs] at h; cases h
        · rw [if_neg hs] at h ⊢
          by_cases he : a.off = b.off
          · refine ⟨v, ?_⟩
            have hlt : a.off < c.size := by rw [he]; exact (Array.getElem?_eq_some_iff.1 h).1
            rw [← he, Array.getElem?_setIfInBounds_self_of_lt hlt]
          · exact ⟨u, by rw [Array.getElem?_setIfInBounds_ne he]; exact h⟩
      | _ => cases h
  · exact ⟨u, by rw [← h]; exact World.cell?_of_block (Below.heap_setCell _ _ _ _ hb)⟩

theorem cell_set_same {w : World} {g k : Nat} {u v : Value} (h : w.cell? ⟨g, k, none⟩ = some u) : (w.setCell ⟨g, k, none⟩ v).cell? ⟨g, k, none⟩ = some v := by
  unfold World.cell? at h ⊢
  unfold World.setCell
  simp only [Array.getElem?_modify, if_true]
  cases hh : w.heap[g]? with
  | none => simp [hh] at h
  | some o =>
    cases o with
    | cells c e fr =>
      simp [hh] at h ⊢
      rw [Array.getElem?_setIfInBounds_self_of_lt (Array.getElem?_eq_some_iff.1 h).1]
    | _ => simp [hh] at h
theorem cell_set_other {w : World} {g k j : Nat} {v : Value} (hne : j ≠ k) : (w.setCell ⟨g, k, none⟩ v).cell? ⟨g, j, none⟩ = w.cell? ⟨g, j, none⟩ := by
  unfold World.cell? World.setCell
  simp only [Array.getElem?_modify, if_true]
  cases hh : w.heap[g]? with
  | none => rfl
  | some o =>
    cases o with
    | cells c e fr => simp [Array.getElem?_setIfInBounds_ne (Ne.symm hne)]
    | _ => rfl

/-- What a swap leaves. -/
theorem Rw.swap {g : Nat} {w : World} {d : Array Int} (h : Rw w g d) (hg : g < w.heap.size) {i j : Nat} (hi : i < d.size) (hj : j < d.size) :
    To g w (swp d i j) ((w.setCell ⟨g, i, none⟩ (.int .u64 d[j]!)).setCell ⟨g, j, none⟩ (.int .u64 d[i]!)) := by
  refine ⟨fun k hk => ?_, ⟨rfl, rfl, rfl, by simp [World.setCell], fun k _ hne => ?_⟩, hg⟩
  · rw [Sort.size_swp] at hk
    refine ⟨?_, by rw [World.frozen?_setCell, World.frozen?_setCell]; exact (h k hk).2⟩
    by_cases ej : k = j
    · subst ej
      obtain ⟨z, hz⟩ := cell_set_some (a := ⟨g, i, none⟩) (v := .int .u64 d[k]!) (h k hk).1 rfl
      rw [cell_set_same hz, Sort.swp_right d i k hk]
    · rw [cell_set_other ej]
      by_cases ei : k = i
      · subst ei
        rw [cell_set_same (h k hk).1, Sort.swp_left d k j hk ej]
      · rw [cell_set_other ei, (h k hk).1, Sort.swp_other d i j k ei ej]
  · rw [Below.heap_setCell _ _ _ _ hne, Below.heap_setCell _ _ _ _ hne]

/-- The facts that the walk of a swap wants. -/
theorem Rw.facts {g : Nat} {w : World} {d : Array Int} (h : Rw w g d) {i j : Nat} (hi : i < d.size) (hj : j < d.size) :
    w.cell? ⟨g, i, none⟩ = some (.int .u64 d[i]!) ∧ w.cell? ⟨g, j, none⟩ = some (.int .u64 d[j]!) ∧ w.frozen? ⟨g, i, none⟩ = false ∧ w.frozen? ⟨g, j, none⟩ = false ∧
    ∃ z, (w.drew.setCell ⟨g, i, none⟩ (.int .u64 d[j]!)).cell? ⟨g, j, none⟩ = some z :=
  ⟨(h i hi).1, (h j hj).1, (h i hi).2, (h j hj).2, cell_set_some (h.drew j hj).1 rfl⟩

theorem Rw.fact6 {g : Nat} {w : World} {d : Array Int} (h : Rw w g d) (i : Nat) {j : Nat} (hj : j < d.size) (v : Value) :
    ∃ z, (w.setCell ⟨g, i, none⟩ v).drew.cell? ⟨g, j, none⟩ = some z := cell_set_some (a := ⟨g, i, none⟩) (h j hj).1 rfl

theorem nan_c (x : Int) (w : World) : Calls Try.prog 61 #[.int .u64 x] w fun e w' => e = .returned (.bool false) ∧ w = w' := by
  go_enter Try.func61, Try.ntmps61
  go_wp2
  go_ret
  exact ⟨by first | rfl | simp, rfl⟩

theorem less_c (x y : Int) (w : World) : Calls Try.prog 51 #[.int .u64 x, .int .u64 y] w fun e w' => e = .returned (.bool (ltInt x y)) ∧ w = w' := by
  have HE : Hid (ltInt x y = decide (x < y)) := rfl
  go_enter Try.func51, Try.ntmps51
  go_wp2_with fail
  refine (nan_c x w).mono ?_
  rintro e w1 ⟨rfl, rfl⟩
  go_wp2
  go_ret
  exact ⟨by rw [HE.out]; rfl, rfl⟩

set_option maxHeartbeats 1000000 in
theorem reverse_c {w : World} {g : Nat} {d : Array Int} (cap a b : Nat) (h : Rw w g d) (hg : g < w.heap.size) (hab : a ≤ b) (hb : b ≤ d.size) (hs : d.size < 4611686018427387904) :
    Calls Try.prog 49 #[.slice (some ⟨g, 0, none⟩) d.size cap, .int .i64 a, .int .i64 b] w fun e w' => e = .returned (.tuple #[]) ∧ ∃ d', PermIn a b d d' ∧ To g w d' w' := by
  have HR : Hid (PermIn a b d d ∧ To g w d w) := ⟨Sort.permIn_refl _ _ _, To.refl h hg⟩
  clear h
  go_enter Try.func49, Try.ntmps49
  go_wp2
  go_loopw [6, 7] (fun i j wr => ∃ (p : Nat) (q : Int) (d' : Array Int), i = .int .i64 p ∧ j = .int .i64 q ∧ a ≤ p ∧ q < b ∧ -1 ≤ q ∧ p ≤ b ∧ PermIn a b d d' ∧ To g w d' wr) (fun i j _ => ((intOf j) - (intOf i) + 1).toNat)
  case atStart => exact ⟨a, (b : Int) - 1, d, rfl, by first | rfl | go_num, by omega, by omega, by omega, by omega, HR.out⟩
  case round =>
    clear HR
    obtain ⟨p, q, d', rfl, rfl, hp, hq, hq1, hpb, hP, hT⟩ := hrel
    have HP := Hid.mk hP
    have HT := Hid.mk hT
    have hsz : d'.size = d.size := hP.1
    clear hP hT
    by_cases hlt : (p : Int) < q
    · obtain ⟨r, rfl⟩ := Int.eq_ofNat_of_zero_le (show 0 ≤ q by omega)
      obtain ⟨f1, f2, f3, f4, z, f5⟩ := HT.out.1.facts (i := p) (j := r) (by omega) (by omega)
      generalize hx : d'[p]! = x at *
      generalize hy : d'[r]! = y at *
      have HX := Hid.mk hx
      have HY := Hid.mk hy
      clear hx hy
      have hr1 : (r : Int) < d.size := by omega
      have hp1 : (p : Int) < d.size := by omega
      go_wp2
      go_region
      have HT2 : Hid (To g w (swp d' p r) (((wr.setCell ⟨g, p, none⟩ (.int .u64 y)).setCell ⟨g, r, none⟩ (.int .u64 x)).drew)) := by
        have := (HT.out.trans (HT.out.1.swap HT.out.lt (i := p) (j := r) (by omega) (by omega))).drew
        rw [HX.out, HY.out] at this
        exact this
      have HP2 : Hid (PermIn a b d (swp d' p r)) := Sort.permIn_trans _ _ _ _ _ HP.out (Sort.swp_permIn _ _ _ _ _ (by omega) (by omega) (by omega) (by omega) (by omega))
      clear f1 f2 f3 f4 f5
      go_wp2
      refine ⟨⟨p + 1, (r : Int) - 1, swp d' p r, by go_num, by go_num, by omega, by omega, by omega, by omega, HP2.out, HT2.out⟩, by simp [intOf]; omega⟩
    · go_wp2
      go_end0
      exact ⟨rfl, d', HP.out, HT.out⟩
end Go.Proofs.Ytiedlkhbbnjkbaa
