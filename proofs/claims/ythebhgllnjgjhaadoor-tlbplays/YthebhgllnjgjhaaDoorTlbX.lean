/- Plays of a buffer and of the document's list beside it: what holds between steps; the law's same. -/
import Derived.Test.YthebhgllnjgjhaaDoorTlbW
import Derived.Test.YthebhgllnjgjhaaDoorTlbU
import Derived.Test.YthebhgllnjgjhaaDoorTlbL
namespace Go.Proofs.YthebhgllnjgjhaaDoor
open Go.RowKit

/-- Between two steps: the buffer and the document's list, of the same entries. -/
structure PInv (w0 w : World) (t : Nat) (most : Int) (l : List En) (ad : Option Addr) (cap : Nat) : Prop where
  ex : ∃ X, Buf w X t most l ∧ (∀ i, X i → w0.heap.size ≤ i) ∧ notIn X ad
  bel : Below w0.heap.size w0 w
  rl : RLst w ad cap l
  rt : ∀ e ∈ l, rightE e = true
  ln : (l.length : Int) ≤ most
theorem PInv.later {w0 w w' : World} {t : Nat} {most : Int} {l : List En} {ad : Option Addr} {cap : Nat} (h : PInv w0 w t most l ad cap) (hb : Below w.heap.size w w') : PInv w0 w' t most l ad cap := by
  obtain ⟨X, h1, h2, h3⟩ := h.ex
  exact ⟨⟨X, h1.later hb, h2, h3⟩, below_tr h.bel hb, h.rl.later hb, h.rt, h.ln⟩
theorem right_facts {e : En} (h : rightE e = true) : isLv e.lv = true ∧ 0 ≤ e.aid := by
  have ho : outE e = false := by
    cases h1 : outE e
    · rfl
    · rw [outE_no h1] at h; cases h
  refine ⟨(outE_yes ho).1, ?_⟩
  unfold outE at ho
  simp only [Bool.or_eq_false_iff, decide_eq_false_iff_not] at ho
  omega
/-- Behind a doing of the buffer alone, by whatever blocks. -/
theorem PInv.next {w0 w w1 w2 : World} {t : Nat} {most : Int} {l l' : List En} {ad ad' : Option Addr} {cap cap' : Nat} {X X' : Nat → Prop} (h : PInv w0 w t most l ad cap) (hXlo : ∀ i, X i → w0.heap.size ≤ i) (hb : Below w.heap.size w w1) (hr : RLst w1 ad' cap' l') (hn : notIn X ad') (ht : Turn X w1 w2) (hB : Buf w2 X' t most l') (hX' : X' = X ∨ X' = Xp X w1 w2) (hrt : ∀ e ∈ l', rightE e = true) (hln : (l'.length : Int) ≤ most) : PInv w0 w2 t most l' ad' cap' := by
  have hB0 := below_tr h.bel hb
  refine ⟨⟨X', hB, ?_, ?_⟩, hB0.trans (ht.below hXlo hB0.size), hr.turn ht hn, hrt, hln⟩
  · rcases hX' with rfl | rfl
    · exact hXlo
    · intro i hi
      rcases hi with hi | hi
      · exact hXlo i hi
      · exact Nat.le_trans hB0.size hi.1
  · rcases hX' with rfl | rfl
    · exact hn
    · intro a ha hx
      rcases hx with hx | hx
      · exact hn a ha hx
      · have := hr.lt a ha; omega

theorem neR (e : En) (w : World) : (binOp .neq 51 e.v e.v).run Tryd.prog w = .ok (.bool false) w := by
  obtain ⟨a0, a1, a2, a3, a4, a5, a6, a7, a8, a9⟩ := e
  go_simp

set_option maxHeartbeats 8000000 in
set_option maxRecDepth 100000 in
theorem same_c {w : World} {X : Nat → Prop} {t : Nat} {most : Int} {l : List En} {ad : Option Addr} {cap : Nat} (h : Buf w X t most l) (hr : RdA w ad l) (hn : l.length ≤ 900) :
    Calls Tryd.prog 10 #[.pointer (some ⟨t, 0, none⟩), .slice ad l.length cap] w fun r w' => r = .returned (.bool true) ∧ Below w.heap.size w w' := by
  have hL := list_c h (by omega)
  have HR := Hid.mk hr
  have hnI : (l.length : Int) ≤ 900 := by omega
  have HLI := fun e w1 => listed_c e w1
  have HLS := Hid.mk HLI
  clear h hr hn HLI
  go_enter Tryd.func10, Tryd.ntmps10
  go_wp2_with fail
  refine hL.mono ?_
  rintro e w1 ⟨adL, capL, rfl, hrL, -, hb1⟩
  have HRL := Hid.mk hrL
  have HR1 := Hid.mk (HR.out.later hb1)
  have HB1 := Hid.mk hb1
  clear hL hrL hb1 HR
  go_wp2
  go_loopw [6, 7, 17] (fun _ _ s17 wr => ∃ i : Nat, i ≤ l.length ∧ s17 = .int .i64 (i : Nat) ∧ Below w1.heap.size w1 wr) (fun _ _ s17 _ => l.length - (RowKit.intOf s17).toNat)
  case atStart => exact ⟨0, by omega, rfl, Below.refl _ _⟩
  case round =>
    obtain ⟨i, hi, rfl, hb⟩ := hrel
    have HB := Hid.mk hb
    by_cases hlt : i < l.length
    · have hlt2 : (i : Int) < l.length := by omega
      have HLT := Hid.mk hlt
      have hib : (i : Int) < 1000 := by omega
      obtain ⟨g, o, rfl, hg, hc⟩ := HRL.out i hlt
      obtain ⟨g2, o2, rfl, hg2, hc2⟩ := HR1.out i hlt
      have d0 := cell_later hb (hc 0 _ rfl)
      have d1 := cell_later hb (hc 1 _ rfl)
      have d2 := cell_later hb (hc 2 _ rfl)
      have d3 := cell_later hb (hc 3 _ rfl)
      have d4 := cell_later hb (hc 4 _ rfl)
      have d5 := cell_later hb (hc 5 _ rfl)
      have d6 := cell_later hb (hc 6 _ rfl)
      have d7 := cell_later hb (hc 7 _ rfl)
      have d8 := cell_later hb (hc 8 _ rfl)
      have d9 := cell_later hb (hc 9 _ rfl)
      rw [Nat.add_zero] at d0
      have hLi := HLS.out (gE l i)
      have HC2 := Hid.mk hc2
      clear hc hb hi hlt hg hg2 hc2
      generalize (gE l i) = y at *
      obtain ⟨b0, b1, b2, b3, b4, b5, b6, b7, b8, b9⟩ := y
      simp only [En.v, En.cs] at *
      go_upto_region 7 with fail
      have HB5 := Hid.mk (below_tr HB.out (below_new wr (.cells #[.int .i64 b0, .int .u64 b1, .int .i64 b2, .int .i64 b3, .int .u64 b4, .bool b5, .bool b6, .bool b7, .bool b8, .int .i64 b9] 33)))
      have K7 := heap_alloc_new wr (.cells #[.int .i64 b0, .int .u64 b1, .int .i64 b2, .int .i64 b3, .int .u64 b4, .bool b5, .bool b6, .bool b7, .bool b8, .int .i64 b9] 33)
      clear d0 d1 d2 d3 d4 d5 d6 d7 d8 d9 HB
      generalize wr.heap.size = B7 at *
      generalize wr.alloc (.cells #[.int .i64 b0, .int .u64 b1, .int .i64 b2, .int .i64 b3, .int .u64 b4, .bool b5, .bool b6, .bool b7, .bool b8, .int .i64 b9] 33) = w5 at *
      obtain ⟨q0, q1, q2, q3, q4, q5, q6, q7, q8, q9⟩ := cells10 K7
      have hb := HB5.out
      have hc2 := HC2.out
      have f0 := cell_later hb (hc2 0 _ rfl)
      have f1 := cell_later hb (hc2 1 _ rfl)
      have f2 := cell_later hb (hc2 2 _ rfl)
      have f3 := cell_later hb (hc2 3 _ rfl)
      have f4 := cell_later hb (hc2 4 _ rfl)
      have f5 := cell_later hb (hc2 5 _ rfl)
      have f6 := cell_later hb (hc2 6 _ rfl)
      have f7 := cell_later hb (hc2 7 _ rfl)
      have f8 := cell_later hb (hc2 8 _ rfl)
      have f9 := cell_later hb (hc2 9 _ rfl)
      rw [Nat.add_zero] at f0
      clear hb hc2 K7
      first | (go_region_with ((go_at_call 17; refine (hLi _).mono ?_; rintro e w' ⟨rfl, hbm⟩; have n0 := cell_later (below_tr (Below.refl _ _).drew hbm) f0; have n1 := cell_later (below_tr (Below.refl _ _).drew hbm) f1; have n2 := cell_later (below_tr (Below.refl _ _).drew hbm) f2; have n3 := cell_later (below_tr (Below.refl _ _).drew hbm) f3; have n4 := cell_later (below_tr (Below.refl _ _).drew hbm) f4; have n5 := cell_later (below_tr (Below.refl _ _).drew hbm) f5; have n6 := cell_later (below_tr (Below.refl _ _).drew hbm) f6; have n7 := cell_later (below_tr (Below.refl _ _).drew hbm) f7; have n8 := cell_later (below_tr (Below.refl _ _).drew hbm) f8; have n9 := cell_later (below_tr (Below.refl _ _).drew hbm) f9))) | fail
      all_goals go_wp2
      all_goals
        go_roundw
        case rel => exact ⟨i + 1, by have := HLT.out; omega, by go_num, below_tr HB5.out (below_tr (Below.refl _ _).drew hbm)⟩
        case measure => have := HLT.out; simp [RowKit.intOf]; omega
    · have hlt2 : ¬ (i : Int) < l.length := by omega
      clear hlt hi hb
      go_wp2
      go_ret
      exact ⟨rfl, below_tr HB1.out HB.out⟩

end Go.Proofs.YthebhgllnjgjhaaDoor
