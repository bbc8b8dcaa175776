/- Plain facts on buffers that were filled, and on what a flush keeps. -/
import Derived.Test.YthebhgllnjgjhaaDoorTlbL
import Derived.Test.YthebhgllnjgjhaaDoorTlbK
namespace Go.Proofs.YthebhgllnjgjhaaDoor
open Go.RowKit

/-- A buffer of 64 behind the first i fills. -/
def fillsI (l : List En) (i : Nat) : List En := (l.take i).foldl (fun a e => fillL a 64 e) []
theorem fills_zero (l : List En) : fillsI l 0 = [] := rfl
theorem fills_succ {l : List En} {i : Nat} (hi : i < l.length) : fillsI l (i + 1) = fillL (fillsI l i) 64 (gE l i) := by
  unfold fillsI
  rw [take_succ_g l i hi, List.foldl_append]
  rfl
theorem fillL_len (l : List En) (m : Int) (e : En) : (fillL l m e).length ≤ l.length + 1 := by
  unfold fillL
  split
  · split
    · omega
    · split
      · have := List.length_eraseIdx_le (l ++ [e]) 0
        simp at this ⊢
      · simp
  · omega
theorem fills_len (l : List En) : ∀ i, i ≤ l.length → (fillsI l i).length ≤ i
  | 0, _ => by rw [fills_zero]; exact Nat.le_refl 0
  | i + 1, h => by
    rw [fills_succ (by omega)]
    have := fillL_len (fillsI l i) 64 (gE l i)
    have := fills_len l i (by omega)
    omega

/-- How many of the first i are kept. -/
def kpI (p : En → Bool) (l : List En) (i : Nat) : Nat := (keepP p (l.take i)).length
theorem kp_zero (p : En → Bool) (l : List En) : kpI p l 0 = 0 := rfl
theorem kp_all (p : En → Bool) (l : List En) : kpI p l l.length = (keepP p l).length := by unfold kpI; rw [List.take_length]
theorem kp_yes {p : En → Bool} {l : List En} {i : Nat} (hi : i < l.length) (h : p (gE l i) = true) : kpI p l (i + 1) = kpI p l i := by
  unfold kpI keepP
  rw [take_succ_g l i hi, List.filter_append, filt0 h, List.append_nil]
theorem kp_no {p : En → Bool} {l : List En} {i : Nat} (hi : i < l.length) (h : p (gE l i) = false) : kpI p l (i + 1) = kpI p l i + 1 := by
  unfold kpI keepP
  rw [take_succ_g l i hi, List.filter_append, filt1 h]
  simp
/-- The kept one at its place. -/
theorem kp_get {p : En → Bool} {l : List En} {i : Nat} (hi : i < l.length) (h : p (gE l i) = false) : kpI p l i < (keepP p l).length ∧ (gE (keepP p l) (kpI p l i)) = (gE l i) := by
  have e : keepP p l = keepP p (l.take i) ++ (gE l i) :: keepP p (l.drop (i + 1)) := by
    have e1 : l = l.take i ++ (gE l i) :: l.drop (i + 1) := by
      rw [gE_pos l i hi, List.getElem_cons_drop, List.take_append_drop]
    have e2 : ((gE l i) :: l.drop (i + 1)).filter (fun e => !p e) = (gE l i) :: (l.drop (i + 1)).filter (fun e => !p e) := by
      rw [List.filter_cons, h]; rfl
    unfold keepP
    rw [← e2, ← List.filter_append, ← e1]
  unfold kpI
  constructor
  · rw [e]; simp
  · rw [e, gE_pos _ _ (by simp)]
    simp
theorem cnt_kept (p : En → Bool) (l : List En) : cntE p (keepP p l) = 0 := by
  unfold cntE keepP
  rw [List.filter_filter, List.length_eq_zero_iff, List.filter_eq_nil_iff]
  intro e _
  simp
theorem kept_not {i : Int} {l : List En} {j : Nat} (hj : j < (keepP (fun e => decide (e.aid = i)) l).length) : (gE (keepP (fun e => decide (e.aid = i)) l) j).aid ≠ i := by
  have hm : (gE (keepP (fun e => decide (e.aid = i)) l) j) ∈ keepP (fun e => decide (e.aid = i)) l := by
    rw [gE_pos (keepP (fun e => decide (e.aid = i)) l) j hj]; exact List.getElem_mem hj
  have := (List.mem_filter.1 hm).2
  intro h
  simp only [h, decide_true, Bool.not_true] at this
  cases this

set_option maxHeartbeats 8000000 in
set_option maxRecDepth 100000 in
theorem count_c {w : World} {X : Nat → Prop} {t : Nat} {most : Int} {l : List En} (h : Buf w X t most l) (hn : l.length ≤ 1000) (i0 : Int) :
    Calls Tryd.prog 22 #[.pointer (some ⟨t, 0, none⟩), .int .i64 i0] w fun r w' => r = .returned (.int .i64 ((cntE (fun e => decide (e.aid = i0)) l : Nat) : Int)) ∧ Below w.heap.size w w' := by
  obtain ⟨v, h⟩ := h
  obtain ⟨ad, cap, rfl, hf, hr⟩ := h.form
  have HRE : Hid (cntE (fun e => decide (e.aid = i0)) l = cntI (fun e => decide (e.aid = i0)) l l.length) := (cnt_all _ _).symm
  have HZ : Hid (cntI (fun e => decide (e.aid = i0)) l 0 = 0) := rfl
  have HNO : Hid (∀ i, i < l.length → (gE l i).aid ≠ i0 → cntI (fun e => decide (e.aid = i0)) l (i + 1) = cntI (fun e => decide (e.aid = i0)) l i) := fun i h1 h2 => (fst_no h1 (decide_eq_false h2)).2
  have HYES : Hid (∀ i, i < l.length → (gE l i).aid = i0 → cntI (fun e => decide (e.aid = i0)) l (i + 1) = cntI (fun e => decide (e.aid = i0)) l i + 1) := fun i h1 h2 => (fst_yes h1 (decide_eq_true h2)).2
  have HCL : Hid (∀ i, i ≤ l.length → cntI (fun e => decide (e.aid = i0)) l i ≤ i) := fun i h1 => cnt_le _ _ _ h1
  have HR := Hid.mk hr
  have hlI : (l.length : Int) ≤ 1000 := by omega
  obtain ⟨-, c1⟩ := row2c h.row
  clear h hf hr hn
  generalize cntE (fun e => decide (e.aid = i0)) l = CE at *
  generalize cntI (fun e => decide (e.aid = i0)) l = cI at *
  go_enter Tryd.func22, Tryd.ntmps22
  go_wp2
  clear c1
  go_loopw [5, 7, 13] (fun s5 _ s13 wr => ∃ i : Nat, i ≤ l.length ∧ s13 = .int .i64 (i : Nat) ∧ s5 = .int .i64 ((cI i : Nat) : Int) ∧ Below w.heap.size w wr) (fun _ _ s13 _ => l.length - (RowKit.intOf s13).toNat)
  case atStart => exact ⟨0, by omega, rfl, by rw [HZ.out]; rfl, Below.refl _ _⟩
  case round =>
    obtain ⟨i, hi, rfl, rfl, hb⟩ := hrel
    have HB := Hid.mk hb
    have hcl := HCL.out i hi
    by_cases hlt : i < l.length
    · have hlt2 : (i : Int) < l.length := by omega
      have HLT := Hid.mk hlt
      have hib : (i : Int) < 1000 := by omega
      have hcb : ((cI i : Nat) : Int) < 1000 := by omega
      obtain ⟨g, o, rfl, hg, hc⟩ := HR.out i hlt
      have d0 := cell_later hb (hc 0 _ rfl)
      have d1 := cell_later hb (hc 1 _ rfl)
      have d2 := cell_later hb (hc 2 _ rfl)
      have d3 := cell_later hb (hc 3 _ rfl)
      have d4 := cell_later hb (hc 4 _ rfl)
      have d5 := cell_later hb (hc 5 _ rfl)
      have d6 := cell_later hb (hc 6 _ rfl)
      have d7 := cell_later hb (hc 7 _ rfl)
      have d8 := cell_later hb (hc 8 _ rfl)
      have d9 := cell_later hb (hc 9 _ rfl)
      rw [Nat.add_zero] at d0
      have HNi := Hid.mk (HNO.out i hlt)
      have HYi := Hid.mk (HYES.out i hlt)
      clear hc hb hi hlt hcl hg
      generalize (gE l i) = y at *
      obtain ⟨b0, b1, b2, b3, b4, b5, b6, b7, b8, b9⟩ := y
      simp only at *
      by_cases hpy : b0 = i0
      · have HY2 := Hid.mk (HYi.out hpy)
        have dq : (b0 == i0) = true := by rw [beq_iff_eq]; exact hpy
        clear HNi HYi hpy
        go_wp2
        go_roundw
        case rel => exact ⟨i + 1, by have := HLT.out; omega, by go_num, by rw [HY2.out]; go_num, below_tr HB.out (below_new _ _)⟩
        case measure => have := HLT.out; simp [RowKit.intOf]; omega
      · have HN2 := Hid.mk (HNi.out hpy)
        have dq : (b0 == i0) = false := by rw [beq_eq_false_iff_ne]; exact hpy
        clear HNi HYi hpy
        go_wp2
        go_roundw
        case rel => exact ⟨i + 1, by have := HLT.out; omega, by go_num, by rw [HN2.out], below_tr HB.out (below_new _ _)⟩
        case measure => have := HLT.out; simp [RowKit.intOf]; omega
    · have hlt2 : ¬ (i : Int) < l.length := by omega
      obtain rfl : i = l.length := by omega
      clear hb hi hlt
      rw [← HRE.out] at hcl ⊢
      go_wp2
      go_ret
      exact ⟨rfl, HB.out⟩

end Go.Proofs.YthebhgllnjgjhaaDoor
