/- The search for all leaves, fifth part: a table's row of words. -/
import Derived.Test.YtjhplcpaaghleaaDoorAllD
namespace Go.Proofs.YtjhplcpaaghleaaDoor
open Go.RowKit Go.Maps

theorem rowS_yes {g : Nat → SSt → Bool × SSt} {m i : Nat} {st : SSt} (h : (g i st).1 = true) : rowS g (m + 1) i st = rowS g m (i + 1) (g i st).2 := by
  conv => lhs; unfold rowS
  rw [if_pos h]
theorem rowS_no {g : Nat → SSt → Bool × SSt} {m i : Nat} {st : SSt} (h : (g i st).1 = false) : rowS g (m + 1) i st = (false, (g i st).2) := by
  unfold rowS
  rw [if_neg (by rw [h]; decide)]
theorem err_row {S tb i : Nat} (hS : S % 4096 = 0) (ht : tb % 4096 = 0) (hi : i < 512) : errA S (tb + 8 * i) = 0 ↔ errA S tb = 0 := by
  constructor
  · intro h
    obtain ⟨h1, h2⟩ := err_ok h
    apply Classical.byContradiction
    intro c
    rcases err_zero c with q | q <;> omega
  · intro h
    obtain ⟨h1, h2⟩ := err_ok h
    apply Classical.byContradiction
    intro c
    rcases err_zero c with q | q <;> omega

set_option maxHeartbeats 4000000 in
theorem table_row (l : Int) (bt tb va : Nat) (hbt : (l = 0 ∧ bt = 39) ∨ (l = 1 ∧ bt = 30) ∨ (l = 2 ∧ bt = 21) ∨ (l = 3 ∧ bt = 12)) (htm : tb % 4096 = 0) (htl : tb < 18446744073709551616) (hva : va ≤ 281474976710656) {w0 w : World} {X : Nat → Prop} {a S n : Nat} {f : Nat → Nat} {most : Int} {st : SSt} {v : Value}
    (h : Srch w0 w a most st v) (hM0 : MemAt w0 X a S n f) (he : errA S tb = 0) (hst : st.1 ≤ 8192) (hle : st.2.length ≤ st.1) (g : Nat → SSt → Bool × SSt) (hg : ∀ i st, st.1 ≤ 8192 → st.2.length ≤ st.1 → okS (g i st))
    (hw : ∀ i st v w1, i < 512 → st.1 ≤ 8192 → st.2.length ≤ st.1 → Srch w0 w1 a most st v → Calls Tryd.prog 58 #[.pointer (some ⟨w0.heap.size, 0, none⟩), .int .i64 l, .int .u64 (f (tb + 8 * i) : Nat), .int .u64 ((va + i * 2 ^ bt : Nat) : Int)] w1 fun e w' => ∃ v', e = .returned (.bool (g i st).1) ∧ Srch w0 w' a most (g i st).2 v') :
    Calls Tryd.prog 41 #[.pointer (some ⟨w0.heap.size, 0, none⟩), .int .i64 l, .int .u64 tb, .int .u64 va] w fun e w' => ∃ v', e = .returned (.bool (rowS g 512 0 st).1) ∧ Srch w0 w' a most (rowS g 512 0 st).2 v' := by
  have hS : S % 4096 = 0 := by obtain ⟨_, _, h⟩ := hM0; exact h.s0.2.2
  generalize hR : rowS g 512 0 st = R
  have HS := Hid.mk h
  have HM := Hid.mk hM0
  have HG := Hid.mk hg
  have HW := Hid.mk hw
  have HST := Hid.mk (And.intro hst (And.intro hle hR))
  have HER : Hid (∀ i, i < 512 → errA S (tb + 8 * i) = 0) := fun i hi => (err_row hS htm hi).2 he
  have hBt := fun w1 => dbits_any l w1
  clear h hM0 hg hw hst hle hR hS he
  rcases hbt with ⟨rfl, rfl⟩ | ⟨rfl, rfl⟩ | ⟨rfl, rfl⟩ | ⟨rfl, rfl⟩
  · rw [show lowL 0 = 39 by decide] at hBt
    go_enter Tryd.func41, Tryd.ntmps41
    go_wp2
    go_loopw [12] (fun s12 wr => ∃ (i : Nat) (st : SSt) (v : Value), i ≤ 512 ∧ s12 = .int .i64 (i : Nat) ∧ Srch w0 wr a most st v ∧ st.1 ≤ 8192 ∧ st.2.length ≤ st.1 ∧ rowS g (512 - i) i st = R) (fun s12 _ => 512 - (intOf s12).toNat)
    case atStart => exact ⟨0, st, v, by omega, rfl, HS.out, HST.out.1, HST.out.2.1, HST.out.2.2⟩
    case round =>
      clear HS HST
      obtain ⟨i, si, vi, hi, rfl, hs, hs1, hs2, hr⟩ := hrel
      have HS := Hid.mk hs
      have HR := Hid.mk (And.intro hs1 (And.intro hs2 hr))
      obtain ⟨c0, -, -, -⟩ := cells4 hs.row
      clear hs hs1 hs2 hr
      by_cases hlt : i < 512
      · have hlt2 : (i : Int) < 512 := by omega
        have hE := fun w1 => entry_any tb i hlt htm htl w1
        have hRd := fun (w1 : World) (hm : MemAt w1 X a S n f) => read_q hm (tb + 8 * i) (by omega)
        rw [HER.out i hlt] at hRd
        have hC := fun w1 => HW.out i si vi w1 hlt HR.out.1 HR.out.2.1
        have harg : ((va + i * 2 ^ 39 : Nat) : Int) = (va : Int) + (i : Int) * 549755813888 := by omega
        rw [harg] at hC
        have hva2 : (va : Int) ≤ 281474976710656 := by omega
        have hp1 : (i : Int) * 549755813888 ≤ 281474976710656 := by omega
        have hp0 : (0 : Int) ≤ (i : Int) * 549755813888 := by omega
        have HLT := Hid.mk hlt
        generalize tb + 8 * i = t at *
        generalize f t = x at *
        have HC := Hid.mk hC
        clear hC harg htm htl hva hlt hi
        go_wp2
        go_quiet (first
          | (go_at_call 48; refine Calls.quiet_of_same ((hE _).mono (fun e w1 hh => ⟨hh.1, hh.2.symm⟩)))
          | (go_at_call 50; refine Calls.quiet_of ((hRd _ (HM.out.below (below_tr HS.out.bel (below_drewN ⟨_, rfl⟩)))).mono (fun e w1 hh => ⟨hh.1, hh.2⟩))))
        have HSd := Hid.mk (HS.out.later (below_drewN (w' := wr.drewN nq) ⟨_, rfl⟩))
        clear HS c0 hE hRd
        generalize wr.drewN nq = wd at *
        go_wp2_with (first
          | (go_at_call 38; refine (hBt _).mono ?_; rintro e w' ⟨rfl, rfl⟩)
          | fail)
        refine (HC.out _ HSd.out).mono ?_
        rintro e w5 ⟨v5, rfl, hs5⟩
        cases hgi : (g i si).1
        · go_wp2
          go_ret
          have e : R = (false, (g i si).2) := by rw [← HR.out.2.2, show 512 - i = (511 - i) + 1 by have := HLT.out; omega, rowS_no hgi]
          exact ⟨v5, by rw [e]; rfl, by rw [e]; exact hs5⟩
        · go_wp2
          have hok := HG.out i si HR.out.1 HR.out.2.1
          refine ⟨⟨i + 1, (g i si).2, v5, by have := HLT.out; omega, by go_num, hs5, hok.1 hgi, hok.2.1, ?_⟩, by have := HLT.out; simp [intOf]; omega⟩
          rw [← HR.out.2.2, show 512 - i = (512 - (i + 1)) + 1 by have := HLT.out; omega, rowS_yes hgi]
      · obtain rfl : i = 512 := by omega
        go_wp2
        go_ret
        have e : R = (true, si) := HR.out.2.2.symm
        exact ⟨vi, by rw [e]; rfl, by rw [e]; exact HS.out⟩
  · rw [show lowL 1 = 30 by decide] at hBt
    go_enter Tryd.func41, Tryd.ntmps41
    go_wp2
    go_loopw [12] (fun s12 wr => ∃ (i : Nat) (st : SSt) (v : Value), i ≤ 512 ∧ s12 = .int .i64 (i : Nat) ∧ Srch w0 wr a most st v ∧ st.1 ≤ 8192 ∧ st.2.length ≤ st.1 ∧ rowS g (512 - i) i st = R) (fun s12 _ => 512 - (intOf s12).toNat)
    case atStart => exact ⟨0, st, v, by omega, rfl, HS.out, HST.out.1, HST.out.2.1, HST.out.2.2⟩
    case round =>
      clear HS HST
      obtain ⟨i, si, vi, hi, rfl, hs, hs1, hs2, hr⟩ := hrel
      have HS := Hid.mk hs
      have HR := Hid.mk (And.intro hs1 (And.intro hs2 hr))
      obtain ⟨c0, -, -, -⟩ := cells4 hs.row
      clear hs hs1 hs2 hr
      by_cases hlt : i < 512
      · have hlt2 : (i : Int) < 512 := by omega
        have hE := fun w1 => entry_any tb i hlt htm htl w1
        have hRd := fun (w1 : World) (hm : MemAt w1 X a S n f) => read_q hm (tb + 8 * i) (by omega)
        rw [HER.out i hlt] at hRd
        have hC := fun w1 => HW.out i si vi w1 hlt HR.out.1 HR.out.2.1
        have harg : ((va + i * 2 ^ 30 : Nat) : Int) = (va : Int) + (i : Int) * 1073741824 := by omega
        rw [harg] at hC
        have hva2 : (va : Int) ≤ 281474976710656 := by omega
        have hp1 : (i : Int) * 1073741824 ≤ 281474976710656 := by omega
        have hp0 : (0 : Int) ≤ (i : Int) * 1073741824 := by omega
        have HLT := Hid.mk hlt
        generalize tb + 8 * i = t at *
        generalize f t = x at *
        have HC := Hid.mk hC
        clear hC harg htm htl hva hlt hi
        go_wp2
        go_quiet (first
          | (go_at_call 48; refine Calls.quiet_of_same ((hE _).mono (fun e w1 hh => ⟨hh.1, hh.2.symm⟩)))
          | (go_at_call 50; refine Calls.quiet_of ((hRd _ (HM.out.below (below_tr HS.out.bel (below_drewN ⟨_, rfl⟩)))).mono (fun e w1 hh => ⟨hh.1, hh.2⟩))))
        have HSd := Hid.mk (HS.out.later (below_drewN (w' := wr.drewN nq) ⟨_, rfl⟩))
        clear HS c0 hE hRd
        generalize wr.drewN nq = wd at *
        go_wp2_with (first
          | (go_at_call 38; refine (hBt _).mono ?_; rintro e w' ⟨rfl, rfl⟩)
          | fail)
        refine (HC.out _ HSd.out).mono ?_
        rintro e w5 ⟨v5, rfl, hs5⟩
        cases hgi : (g i si).1
        · go_wp2
          go_ret
          have e : R = (false, (g i si).2) := by rw [← HR.out.2.2, show 512 - i = (511 - i) + 1 by have := HLT.out; omega, rowS_no hgi]
          exact ⟨v5, by rw [e]; rfl, by rw [e]; exact hs5⟩
        · go_wp2
          have hok := HG.out i si HR.out.1 HR.out.2.1
          refine ⟨⟨i + 1, (g i si).2, v5, by have := HLT.out; omega, by go_num, hs5, hok.1 hgi, hok.2.1, ?_⟩, by have := HLT.out; simp [intOf]; omega⟩
          rw [← HR.out.2.2, show 512 - i = (512 - (i + 1)) + 1 by have := HLT.out; omega, rowS_yes hgi]
      · obtain rfl : i = 512 := by omega
        go_wp2
        go_ret
        have e : R = (true, si) := HR.out.2.2.symm
        exact ⟨vi, by rw [e]; rfl, by rw [e]; exact HS.out⟩
  · rw [show lowL 2 = 21 by decide] at hBt
    go_enter Tryd.func41, Tryd.ntmps41
    go_wp2
    go_loopw [12] (fun s12 wr => ∃ (i : Nat) (st : SSt) (v : Value), i ≤ 512 ∧ s12 = .int .i64 (i : Nat) ∧ Srch w0 wr a most st v ∧ st.1 ≤ 8192 ∧ st.2.length ≤ st.1 ∧ rowS g (512 - i) i st = R) (fun s12 _ => 512 - (intOf s12).toNat)
    case atStart => exact ⟨0, st, v, by omega, rfl, HS.out, HST.out.1, HST.out.2.1, HST.out.2.2⟩
    case round =>
      clear HS HST
      obtain ⟨i, si, vi, hi, rfl, hs, hs1, hs2, hr⟩ := hrel
      have HS := Hid.mk hs
      have HR := Hid.mk (And.intro hs1 (And.intro hs2 hr))
      obtain ⟨c0, -, -, -⟩ := cells4 hs.row
      clear hs hs1 hs2 hr
      by_cases hlt : i < 512
      · have hlt2 : (i : Int) < 512 := by omega
        have hE := fun w1 => entry_any tb i hlt htm htl w1
        have hRd := fun (w1 : World) (hm : MemAt w1 X a S n f) => read_q hm (tb + 8 * i) (by omega)
        rw [HER.out i hlt] at hRd
        have hC := fun w1 => HW.out i si vi w1 hlt HR.out.1 HR.out.2.1
        have harg : ((va + i * 2 ^ 21 : Nat) : Int) = (va : Int) + (i : Int) * 2097152 := by omega
        rw [harg] at hC
        have hva2 : (va : Int) ≤ 281474976710656 := by omega
        have hp1 : (i : Int) * 2097152 ≤ 281474976710656 := by omega
        have hp0 : (0 : Int) ≤ (i : Int) * 2097152 := by omega
        have HLT := Hid.mk hlt
        generalize tb + 8 * i = t at *
        generalize f t = x at *
        have HC := Hid.mk hC
        clear hC harg htm htl hva hlt hi
        go_wp2
        go_quiet (first
          | (go_at_call 48; refine Calls.quiet_of_same ((hE _).mono (fun e w1 hh => ⟨hh.1, hh.2.symm⟩)))
          | (go_at_call 50; refine Calls.quiet_of ((hRd _ (HM.out.below (below_tr HS.out.bel (below_drewN ⟨_, rfl⟩)))).mono (fun e w1 hh => ⟨hh.1, hh.2⟩))))
        have HSd := Hid.mk (HS.out.later (below_drewN (w' := wr.drewN nq) ⟨_, rfl⟩))
        clear HS c0 hE hRd
        generalize wr.drewN nq = wd at *
        go_wp2_with (first
          | (go_at_call 38; refine (hBt _).mono ?_; rintro e w' ⟨rfl, rfl⟩)
          | fail)
        refine (HC.out _ HSd.out).mono ?_
        rintro e w5 ⟨v5, rfl, hs5⟩
        cases hgi : (g i si).1
        · go_wp2
          go_ret
          have e : R = (false, (g i si).2) := by rw [← HR.out.2.2, show 512 - i = (511 - i) + 1 by have := HLT.out; omega, rowS_no hgi]
          exact ⟨v5, by rw [e]; rfl, by rw [e]; exact hs5⟩
        · go_wp2
          have hok := HG.out i si HR.out.1 HR.out.2.1
          refine ⟨⟨i + 1, (g i si).2, v5, by have := HLT.out; omega, by go_num, hs5, hok.1 hgi, hok.2.1, ?_⟩, by have := HLT.out; simp [intOf]; omega⟩
          rw [← HR.out.2.2, show 512 - i = (512 - (i + 1)) + 1 by have := HLT.out; omega, rowS_yes hgi]
      · obtain rfl : i = 512 := by omega
        go_wp2
        go_ret
        have e : R = (true, si) := HR.out.2.2.symm
        exact ⟨vi, by rw [e]; rfl, by rw [e]; exact HS.out⟩
  · rw [show lowL 3 = 12 by decide] at hBt
    go_enter Tryd.func41, Tryd.ntmps41
    go_wp2
    go_loopw [12] (fun s12 wr => ∃ (i : Nat) (st : SSt) (v : Value), i ≤ 512 ∧ s12 = .int .i64 (i : Nat) ∧ Srch w0 wr a most st v ∧ st.1 ≤ 8192 ∧ st.2.length ≤ st.1 ∧ rowS g (512 - i) i st = R) (fun s12 _ => 512 - (intOf s12).toNat)
    case atStart => exact ⟨0, st, v, by omega, rfl, HS.out, HST.out.1, HST.out.2.1, HST.out.2.2⟩
    case round =>
      clear HS HST
      obtain ⟨i, si, vi, hi, rfl, hs, hs1, hs2, hr⟩ := hrel
      have HS := Hid.mk hs
      have HR := Hid.mk (And.intro hs1 (And.intro hs2 hr))
      obtain ⟨c0, -, -, -⟩ := cells4 hs.row
      clear hs hs1 hs2 hr
      by_cases hlt : i < 512
      · have hlt2 : (i : Int) < 512 := by omega
        have hE := fun w1 => entry_any tb i hlt htm htl w1
        have hRd := fun (w1 : World) (hm : MemAt w1 X a S n f) => read_q hm (tb + 8 * i) (by omega)
        rw [HER.out i hlt] at hRd
        have hC := fun w1 => HW.out i si vi w1 hlt HR.out.1 HR.out.2.1
        have harg : ((va + i * 2 ^ 12 : Nat) : Int) = (va : Int) + (i : Int) * 4096 := by omega
        rw [harg] at hC
        have hva2 : (va : Int) ≤ 281474976710656 := by omega
        have hp1 : (i : Int) * 4096 ≤ 281474976710656 := by omega
        have hp0 : (0 : Int) ≤ (i : Int) * 4096 := by omega
        have HLT := Hid.mk hlt
        generalize tb + 8 * i = t at *
        generalize f t = x at *
        have HC := Hid.mk hC
        clear hC harg htm htl hva hlt hi
        go_wp2
        go_quiet (first
          | (go_at_call 48; refine Calls.quiet_of_same ((hE _).mono (fun e w1 hh => ⟨hh.1, hh.2.symm⟩)))
          | (go_at_call 50; refine Calls.quiet_of ((hRd _ (HM.out.below (below_tr HS.out.bel (below_drewN ⟨_, rfl⟩)))).mono (fun e w1 hh => ⟨hh.1, hh.2⟩))))
        have HSd := Hid.mk (HS.out.later (below_drewN (w' := wr.drewN nq) ⟨_, rfl⟩))
        clear HS c0 hE hRd
        generalize wr.drewN nq = wd at *
        go_wp2_with (first
          | (go_at_call 38; refine (hBt _).mono ?_; rintro e w' ⟨rfl, rfl⟩)
          | fail)
        refine (HC.out _ HSd.out).mono ?_
        rintro e w5 ⟨v5, rfl, hs5⟩
        cases hgi : (g i si).1
        · go_wp2
          go_ret
          have e : R = (false, (g i si).2) := by rw [← HR.out.2.2, show 512 - i = (511 - i) + 1 by have := HLT.out; omega, rowS_no hgi]
          exact ⟨v5, by rw [e]; rfl, by rw [e]; exact hs5⟩
        · go_wp2
          have hok := HG.out i si HR.out.1 HR.out.2.1
          refine ⟨⟨i + 1, (g i si).2, v5, by have := HLT.out; omega, by go_num, hs5, hok.1 hgi, hok.2.1, ?_⟩, by have := HLT.out; simp [intOf]; omega⟩
          rw [← HR.out.2.2, show 512 - i = (512 - (i + 1)) + 1 by have := HLT.out; omega, rowS_yes hgi]
      · obtain rfl : i = 512 := by omega
        go_wp2
        go_ret
        have e : R = (true, si) := HR.out.2.2.symm
        exact ⟨vi, by rw [e]; rfl, by rw [e]; exact HS.out⟩
end Go.Proofs.YtjhplcpaaghleaaDoor
