/- insertionSort at words. -/
import Derived.Test.YtiedlkhbbnjkbaaSortRow
namespace Go.Proofs.Ytiedlkhbbnjkbaa
open Go.RowKit
open Go.Sort (swp ltInt PermIn SortedIn insInner insOuter insertionSort)

theorem insInner_stop {a j : Nat} {d : Array Int} (h : j ≤ a ∨ ltInt d[j]! d[j - 1]! = false) : insInner ltInt a j d = d := by
  cases j with
  | zero => rfl
  | succ j =>
    rw [insInner]
    rcases h with h | h
    · rw [if_neg]; simp; omega
    · rw [if_neg]; simp at h ⊢; intro _; exact h
theorem insInner_go {a j : Nat} {d : Array Int} (h : a < j) (hl : ltInt d[j]! d[j - 1]! = true) : insInner ltInt a j d = insInner ltInt a (j - 1) (swp d j (j - 1)) := by
  cases j with
  | zero => omega
  | succ j =>
    rw [insInner, if_pos]
    · rfl
    · simp at hl ⊢; exact ⟨by omega, hl⟩
theorem insOuter_go {a b i : Nat} {d : Array Int} (h : i < b) : insOuter ltInt a b i d = insOuter ltInt a b (i + 1) (insInner ltInt a i d) := by
  rw [insOuter, if_pos h]
theorem insOuter_stop {a b i : Nat} {d : Array Int} (h : ¬ i < b) : insOuter ltInt a b i d = d := by
  rw [insOuter, if_neg h]

set_option maxHeartbeats 2000000 in
theorem ins_c {w : World} {g : Nat} {d : Array Int} (cap a b : Nat) (h : Rw w g d) (hg : g < w.heap.size) (hab : a ≤ b) (hb : b ≤ d.size) (hs : d.size < 4611686018427387904) :
    Calls Try.prog 45 #[.slice (some ⟨g, 0, none⟩) d.size cap, .int .i64 a, .int .i64 b] w fun e w' => e = .returned (.tuple #[]) ∧ To g w (insertionSort ltInt d a b) w' := by
  have HR : Hid (To g w d w) := To.refl h hg
  clear h
  go_enter Try.func45, Try.ntmps45
  go_wp2
  go_loopw [6] (fun i wr => ∃ (p : Nat) (d' : Array Int), i = .int .i64 p ∧ a < p ∧ p ≤ b + 1 ∧ d'.size = d.size ∧ insOuter ltInt a b p d' = insertionSort ltInt d a b ∧ To g w d' wr) (fun i _ => ((b : Int) + 1 - intOf i).toNat)
  case atStart => exact ⟨a + 1, d, by first | rfl | go_num, by omega, by omega, rfl, rfl, HR.out⟩
  case round =>
    clear HR
    obtain ⟨p, d', rfl, hp, hpb, hsz, hI, hT⟩ := hrel
    have HI := Hid.mk hI
    have HT := Hid.mk hT
    clear hI hT
    by_cases hlt : p < b
    · go_wp2
      go_loopw [7] (fun j wr => ∃ (q : Nat) (e : Array Int), j = .int .i64 q ∧ a ≤ q ∧ q ≤ p ∧ e.size = d.size ∧ insInner ltInt a q e = insInner ltInt a p d' ∧ To g w e wr) (fun j _ => (intOf j).toNat)
      case atStart => exact ⟨p, d', rfl, by omega, by omega, hsz, rfl, HT.out⟩
      case round =>
        obtain ⟨q, e, rfl, hq, hqp, hez, hJ, hE⟩ := hrel
        have HJ := Hid.mk hJ
        have HE := Hid.mk hE
        clear hJ hE
        by_cases hqa : a < q
        · obtain ⟨r, rfl⟩ : ∃ r, q = r + 1 := ⟨q - 1, by omega⟩
          have d1 : decide ((a : Int) < (r : Int) + 1) = true := decide_eq_true (by omega)
          obtain ⟨f1, f2, f3, f4, z, f5⟩ := HE.out.1.facts (i := r + 1) (j := r) (by omega) (by omega)
          have hls := less_c e[r + 1]! e[r]!
          have HGo : Hid (ltInt e[r + 1]! e[r]! = true → insInner ltInt a (r + 1) e = insInner ltInt a r (swp e (r + 1) r)) := fun hl => insInner_go hqa hl
          have HSt : Hid (ltInt e[r + 1]! e[r]! = false → insInner ltInt a (r + 1) e = e) := fun hl => insInner_stop (Or.inr hl)
          generalize hx : e[r + 1]! = x at *
          generalize hy : e[r]! = y at *
          have HX := Hid.mk hx
          have HY := Hid.mk hy
          clear hx hy
          have hr1 : (r : Int) + 1 < d.size := by omega
          go_wp2
          go_quiet ((refine Calls.quiet_of_same ((hls _).mono (fun e w1 hh => ⟨hh.1, hh.2.symm⟩))))
          cases hc : ltInt x y with
          | true =>
            rw [hc] at HGo HSt
            have hTw : To g w e (wr.drewN nq) := ⟨HE.out.1, ⟨HE.out.2.1.os, HE.out.2.1.tape, HE.out.2.1.output, HE.out.2.1.size, HE.out.2.1.block⟩, HE.out.2.2⟩
            have HTw := Hid.mk hTw
            clear hTw f1 f2 f3 f4 f5 hls
            generalize wr.drewN nq = wq at *
            obtain ⟨f1, f2, f3, f4, z, f5⟩ := HTw.out.1.facts (i := r + 1) (j := r) (by omega) (by omega)
            rw [HX.out] at f1
            rw [HY.out] at f2 f5
            go_wp2
            go_region
            have HT2 : Hid (To g w (swp e (r + 1) r) (((wq.setCell ⟨g, r + 1, none⟩ (.int .u64 y)).setCell ⟨g, r, none⟩ (.int .u64 x)).drew)) := by
              have := (HTw.out.trans (HTw.out.1.swap HTw.out.lt (i := r + 1) (j := r) (by omega) (by omega))).drew
              rw [HX.out, HY.out] at this
              exact this
            clear f1 f2 f3 f4 f5
            go_wp2
            refine ⟨⟨r, swp e (r + 1) r, by go_num, by omega, by omega, by rw [Sort.size_swp]; exact hez, ?_, HT2.out⟩, by simp [intOf]⟩
            rw [← HJ.out, HGo.out (by trivial)]
          | false =>
            rw [hc] at HGo HSt
            have hTw : To g w e (wr.drewN nq) := ⟨HE.out.1, ⟨HE.out.2.1.os, HE.out.2.1.tape, HE.out.2.1.output, HE.out.2.1.size, HE.out.2.1.block⟩, HE.out.2.2⟩
            have HTw := Hid.mk hTw
            clear hTw f1 f2 f3 f4 f5 hls
            generalize wr.drewN nq = wq at *
            go_wp2
            refine ⟨⟨p + 1, e, by go_num, by omega, by omega, hez, ?_, HTw.out⟩, by simp [intOf]; omega⟩
            rw [← HI.out, insOuter_go hlt, ← HJ.out, HSt.out (by trivial)]
        · have d1 : decide ((a : Int) < q) = false := decide_eq_false (by omega)
          go_wp2
          go_quiet (fail)
          have hTw : To g w e (wr.drewN nq) := ⟨HE.out.1, ⟨HE.out.2.1.os, HE.out.2.1.tape, HE.out.2.1.output, HE.out.2.1.size, HE.out.2.1.block⟩, HE.out.2.2⟩
          have HTw := Hid.mk hTw
          clear hTw
          generalize wr.drewN nq = wq at *
          go_wp2
          refine ⟨⟨p + 1, e, by go_num, by omega, by omega, hez, ?_, HTw.out⟩, by simp [intOf]; omega⟩
          rw [← HI.out, insOuter_go hlt, ← HJ.out, insInner_stop (Or.inl (by omega))]
    · go_wp2
      go_end0
      have := HI.out
      rw [insOuter_stop hlt] at this
      exact ⟨rfl, this ▸ HT.out⟩
end Go.Proofs.Ytiedlkhbbnjkbaa
