/- Rows of entries: the walks of package slices' Index, Contains, Clone at entries. -/
import Derived.Test.YtdpcbdbdacjcbaaDoorTrA
import Derived.Deep.QuietTactic
import Derived.BigQuiet
import Derived.Deep.RegionLaw
namespace Go.Proofs.YtdpcbdbdacjcbaaDoor.TR
open Go.RowKit

abbrev TE : TypeId := 31
theorem below_dN {w0 w : World} (h : Below w0.heap.size w0 w) : ∀ n, Below w0.heap.size w0 (w.drewN n)
  | 0 => h
  | n + 1 => (below_dN h n).drew

set_option maxHeartbeats 4000000 in
set_option maxRecDepth 100000 in
theorem index_c (l : List En) (e : En) (ad : Option Addr) (cap : Nat) (w : World) (hn : l.length ≤ 1000) (hr : RdA w ad l) :
    Calls Tryd.prog 64 #[.slice ad l.length cap, e.v] w fun r w' => (∃ z : Int, r = .returned (.int .i64 z) ∧ (0 ≤ z ↔ e ∈ l)) ∧ Below w.heap.size w w' := by
  have HR := Hid.mk hr
  have heq := fun y w1 => eqT e y w1
  have HE := Hid.mk (rfl : e = e)
  have hnI : (l.length : Int) ≤ 1000 := by omega
  obtain ⟨f, hf⟩ : ∃ f : En, f = e := ⟨_, rfl⟩
  rw [← hf] at heq ⊢
  have HF := Hid.mk hf
  clear hr hn hf HE
  obtain ⟨a0, a1, a2, a3⟩ := f
  simp only [En.v] at *
  go_enter Tryd.func64, Tryd.ntmps64
  go_wp2
  go_loopw [5, 8] (fun _ s8 wr => ∃ i : Nat, i ≤ l.length ∧ s8 = .int .i64 (i : Nat) ∧ Below w.heap.size w wr ∧ wr.heap[w.heap.size]? = some (.cells #[.int .i64 a0, .int .u64 a1, .int .i64 a2, .int .u64 a3] 31 (0, 0)) ∧ ∀ j, j < i → (gE l j) ≠ e) (fun _ s8 _ => l.length - (RowKit.intOf s8).toNat)
  case atStart => exact ⟨0, by omega, rfl, below_new _ _, heap_alloc_new _ _, fun j hj => absurd hj (Nat.not_lt_zero _)⟩
  case round =>
    obtain ⟨i, hi, rfl, hb, hK, hno⟩ := hrel
    have HB := Hid.mk hb
    have HK := Hid.mk hK
    have HNO := Hid.mk hno
    clear hno
    by_cases hlt : i < l.length
    · have hlt2 : (i : Int) < l.length := by omega
      have HLT := Hid.mk hlt
      have hib : (i : Int) < 1000 := by omega
      obtain ⟨g, o, rfl, hg, hc⟩ := HR.out i hlt
      have d0 := cell_later hb (hc 0 _ rfl)
      have d1 := cell_later hb (hc 1 _ rfl)
      have d2 := cell_later hb (hc 2 _ rfl)
      have d3 := cell_later hb (hc 3 _ rfl)
      rw [Nat.add_zero] at d0
      have hq := heq (gE l i)
      have HY : Hid (eqB ⟨a0, a1, a2, a3⟩ (gE l i) = eqB (gE l i) e) := by
        show _ = _
        rw [HF.out]; exact eqB_comm _ _
      have HM : Hid ((gE l i) ∈ l) := by show _ ∈ _; rw [gE_pos l i hlt]; exact List.getElem_mem hlt
      clear hc hb hi heq hlt
      obtain ⟨q0, q1, q2, q3⟩ := cells4 hK
      clear hK
      rw [HY.out] at hq
      have HEY := Hid.mk (rfl : (gE l i) = (gE l i))
      by_cases hey : (gE l i) = e
      · rw [eqB_true hey] at hq
        have HX : Hid (e ∈ l) := by show _ ∈ _; rw [← hey]; exact HM.out
        clear HY HM HEY hey
        generalize (gE l i) = y at *
        obtain ⟨b0, b1, b2, b3⟩ := y
        simp only at *
        go_wp2
        go_quiet (fail)
        go_wp2
        go_ret
        exact ⟨⟨_, rfl, fun _ => by rw [HF.out]; exact HX.out, fun _ => by omega⟩, below_dN HB.out _⟩
      · rw [eqB_false hey] at hq
        have HX : Hid (∀ j, j < i + 1 → (gE l j) ≠ e) := fun j hj => by
          by_cases h : j = i
          · subst h; exact hey
          · exact HNO.out j (by omega)
        clear HY HM HEY hey
        generalize (gE l i) = y at *
        obtain ⟨b0, b1, b2, b3⟩ := y
        simp only at *
        go_wp2
        go_quiet (fail)
        go_wp2
        exact ⟨⟨i + 1, by have := HLT.out; omega, by go_num, below_dN HB.out _, block_later (below_dN (Below.refl _ _) _) HK.out, HX.out⟩, by have := HLT.out; simp [RowKit.intOf]; omega⟩
    · have hlt2 : ¬ (i : Int) < l.length := by omega
      have HX : Hid (e ∉ l) := fun hm => by
        obtain ⟨j, hj, rfl⟩ := List.getElem_of_mem hm
        exact HNO.out j (by omega) (gE_pos l j hj)
      clear hb hK hi heq hlt
      go_wp2
      go_ret
      exact ⟨⟨_, rfl, fun h => absurd h (by omega), fun h => absurd (HF.out ▸ h) HX.out⟩, HB.out⟩

set_option maxHeartbeats 1000000 in
theorem contains_c (l : List En) (e : En) (ad : Option Addr) (cap : Nat) (w : World) (hn : l.length ≤ 1000) (hr : RdA w ad l) :
    Calls Tryd.prog 36 #[.slice ad l.length cap, e.v] w fun r w' => r = .returned (.bool (memB e l)) ∧ Below w.heap.size w w' := by
  have hc := fun w1 h1 => index_c l e ad cap w1 hn h1
  have HR := Hid.mk hr
  clear hr hn
  have HI : Hid (∀ z : Int, (0 ≤ z ↔ e ∈ l) → memB e l = decide (0 ≤ z)) := fun z hz => by rw [Bool.eq_iff_iff, memB_iff, decide_eq_true_eq]; exact hz.symm
  generalize memB e l = D at *
  obtain ⟨a0, a1, a2, a3⟩ := e
  simp only [En.v] at *
  generalize l.length = n at *
  go_enter Tryd.func36, Tryd.ntmps36
  go_wp2_with fail
  refine (hc _ (HR.out.later (below_new _ _))).mono ?_
  rintro e w1 ⟨⟨z, rfl, hz⟩, hb⟩
  have HZ := Hid.mk (HI.out z hz)
  clear hz hc
  go_wp2
  all_goals go_ret
  all_goals exact ⟨by rw [HZ.out]; rfl, below_tr (below_new _ _) hb⟩

end Go.Proofs.YtdpcbdbdacjcbaaDoor.TR
