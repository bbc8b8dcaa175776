/- partialInsertionSort at words. -/
import Derived.Test.YtiedlkhbbnjkbaaSortPart
namespace Go.Proofs.Ytiedlkhbbnjkbaa
open Go.RowKit
open Go.Sort (swp ltInt PermIn SortedIn partialInsertionSort partialIns scanSorted shiftDown shiftUp)

theorem scan_go {e : Array Int} {b i : Nat} (h : i < b) (hl : ltInt e[i]! e[i - 1]! = false) : scanSorted ltInt e b i = scanSorted ltInt e b (i + 1) := by
  rw [scanSorted, if_pos (by simp [h, hl])]
theorem scan_stop {e : Array Int} {b i : Nat} (h : ¬ i < b ∨ ltInt e[i]! e[i - 1]! = true) : scanSorted ltInt e b i = i := by
  rw [scanSorted, if_neg]
  rcases h with h | h
  · simp [h]
  · simp [h]
theorem sd_stop {e : Array Int} {j : Nat} (h : j = 0 ∨ ltInt e[j]! e[j - 1]! = false) : shiftDown ltInt j e = e := by
  cases j with
  | zero => rfl
  | succ j =>
    rcases h with h | h
    · omega
    · rw [shiftDown, if_pos]; simp at h; simp [h]
theorem sd_go {e : Array Int} {j : Nat} (hj : 1 ≤ j) (h : ltInt e[j]! e[j - 1]! = true) : shiftDown ltInt j e = shiftDown ltInt (j - 1) (swp e j (j - 1)) := by
  cases j with
  | zero => omega
  | succ j => rw [shiftDown, if_neg]; · rfl
              simp at h; simp [h]
theorem su_stop {e : Array Int} {b j : Nat} (h : ¬ j < b ∨ ltInt e[j]! e[j - 1]! = false) : shiftUp ltInt b j e = e := by
  rw [shiftUp]
  rcases h with h | h
  · rw [if_neg h]
  · by_cases c : j < b
    · rw [if_pos c, if_pos (by simp [h])]
    · rw [if_neg c]
theorem su_go {e : Array Int} {b j : Nat} (hj : j < b) (h : ltInt e[j]! e[j - 1]! = true) : shiftUp ltInt b j e = shiftUp ltInt b (j + 1) (swp e j (j - 1)) := by
  rw [shiftUp, if_pos hj, if_neg (by simp [h])]

def pDown (a i : Nat) (e : Array Int) : Array Int := if i - a ≥ 2 then shiftDown ltInt (i - 1) e else e
def pUp (b i : Nat) (e : Array Int) : Array Int := if b - i ≥ 2 then shiftUp ltInt b (i + 1) e else e
theorem pi_true {a b s i : Nat} {e : Array Int} (h : scanSorted ltInt e b i = b) : partialIns ltInt a b (s + 1) i e = (e, true) := by
  rw [Sort.partialIns_succ]; simp [h]
theorem pi_short {a b s i : Nat} {e : Array Int} (h : scanSorted ltInt e b i ≠ b) (h5 : b - a < 50) : partialIns ltInt a b (s + 1) i e = (e, false) := by
  rw [Sort.partialIns_succ]; simp [h, h5]
theorem pi_go {a b s i m : Nat} {e : Array Int} (hm : scanSorted ltInt e b i = m) (h : m ≠ b) (h5 : ¬ b - a < 50) : partialIns ltInt a b (s + 1) i e = partialIns ltInt a b s m (pUp b m (pDown a m (swp e m (m - 1)))) := by
  rw [Sort.partialIns_succ, hm, if_neg h, if_neg h5]
  rfl

def PiPost (g a b : Nat) (w : World) (d : Array Int) (r : Ending) (w' : World) : Prop :=
  r = .returned (.bool (partialInsertionSort ltInt d a b).2) ∧ To g w (partialInsertionSort ltInt d a b).1 w'

set_option maxRecDepth 100000 in
set_option maxHeartbeats 16000000 in
theorem pins_c {w : World} {g : Nat} {d : Array Int} (cap a b : Nat) (h : Rw w g d) (hg : g < w.heap.size) (hab : a < b) (hb : b ≤ d.size) (hs : d.size < 4611686018427387904) :
    Calls Try.prog 50 #[.slice (some ⟨g, 0, none⟩) d.size cap, .int .i64 a, .int .i64 b] w fun r w' => PiPost g a b w d r w' := by
  have HR : Hid (To g w d w) := To.refl h hg
  clear h
  go_enter Try.func50, Try.ntmps50
  go_wp2
  go_loopw [7, 8] (fun t u wr => ∃ (i k : Nat) (e : Array Int), t = .int .i64 i ∧ u = .int .i64 k ∧ k ≤ 5 ∧ a < i ∧ i ≤ b ∧ e.size = d.size ∧ partialIns ltInt a b (5 - k) i e = partialInsertionSort ltInt d a b ∧ To g w e wr) (fun _ u _ => 5 - (intOf u).toNat)
  case atStart => exact ⟨a + 1, 0, d, by first | rfl | go_num, rfl, by omega, by omega, by omega, rfl, rfl, HR.out⟩
  case round =>
    clear HR
    obtain ⟨i0, k, e, rfl, rfl, hk, hi0, hib, hez, hI, hT⟩ := hrel
    have HI := Hid.mk hI
    have HT := Hid.mk hT
    clear hI hT
    by_cases hk5 : k < 5
    · obtain ⟨s, hs5⟩ : ∃ s, 5 - k = s + 1 := ⟨5 - k - 1, by omega⟩
      have HI2 : Hid (partialIns ltInt a b (s + 1) i0 e = partialInsertionSort ltInt d a b) := by
        show _ = _
        rw [← hs5]; exact HI.out
      have HS5 : Hid (5 - (k + 1) = s) := by (show 5 - (k + 1) = s; omega)
      clear HI hs5
      have dk : decide ((k : Int) < 5) = true := decide_eq_true (by omega)
      go_wp2
      go_loopw [7] (fun t wx => ∃ i : Nat, t = .int .i64 i ∧ a < i ∧ i ≤ b ∧ scanSorted ltInt e b i = scanSorted ltInt e b i0 ∧ To g w e wx) (fun t _ => ((b : Int) + 1 - intOf t).toNat)
      case atStart => exact ⟨i0, rfl, hi0, hib, rfl, HT.out⟩
      case round =>
        clear HT
        obtain ⟨i, rfl, hia, hib2, hsc, hT⟩ := hrel
        have HSc := Hid.mk hsc
        have HT := Hid.mk hT
        clear hsc hT
        obtain ⟨i1, hi1⟩ : ∃ i1, i1 + 1 = i := ⟨i - 1, by omega⟩
        have ii1 : (i : Int) - 1 = (i1 : Int) := by omega
        go_upto_region 5 with fail
        go_cut [32] from 17 to 34 (fun c wx => ∃ q : Bool, c = .bool q ∧ (q = true → i < b ∧ ltInt e[i]! e[i1]! = false) ∧ (q = false → ¬ i < b ∨ ltInt e[i]! e[i1]! = true) ∧ To g w e wx)
        case first =>
          by_cases hij : i < b
          · have d1 : decide ((i : Int) < b) = true := decide_eq_true (by omega)
            obtain ⟨f1, f2, _⟩ := HT.out.1.facts (i := i) (j := i1) (by omega) (by omega)
            have hls := less_c e[i]! e[i1]!
            generalize hx : e[i]! = x at *
            generalize hy : e[i1]! = y at *
            have bi : (i : Int) < d.size := by omega
            clear hx hy
            go_quiet ((refine Calls.quiet_of_same ((hls _).mono (fun e w1 hh => ⟨hh.1, hh.2.symm⟩))))
            have HTq := Hid.mk (HT.out.drewN nq)
            clear f1 f2 hls
            generalize wr.drewN nq = wq at *
            go_wp2_with fail
            go_meet
            refine ⟨_, rfl, fun h => ⟨hij, ?_⟩, fun h => Or.inr ?_, HTq.out⟩
            · simpa using h
            · simpa using h
          · have d1 : decide ((i : Int) < b) = false := decide_eq_false (by omega)
            go_quiet (fail)
            have HTq := Hid.mk (HT.out.drewN nq)
            generalize wr.drewN nq = wq at *
            go_wp2_with fail
            go_meet
            exact ⟨false, rfl, fun h => (by cases h), fun _ => Or.inl hij, HTq.out⟩
        case rest =>
          obtain ⟨q, rfl, hq1, hq2, hTc⟩ := hcut
          have HTc := Hid.mk hTc
          clear hTc
          cases q with
          | true =>
            have HQ := Hid.mk (hq1 rfl)
            have hql := (hq1 rfl).1
            clear hq1 hq2
            go_wp2
            refine ⟨⟨i + 1, by first | rfl | go_num, by omega, by omega, by rw [← HSc.out, ← scan_go HQ.out.1 (by rw [show i - 1 = i1 by omega]; exact HQ.out.2)], HTc.out⟩, by first | (simp [intOf]; done) | (simp [intOf]; omega)⟩
          | false =>
            have HM : Hid (scanSorted ltInt e b i0 = i) := by
              show _ = _
              rw [← HSc.out, scan_stop (by rw [show i - 1 = i1 by omega]; exact hq2 rfl)]
            clear hq1 hq2 HSc HT
            by_cases hbe : i = b
            · have hbi : ((i : Int) == b) = true := by simp; omega
              have HB := Hid.mk hbe
              clear hbe
              go_wp2
              go_ret
              have hh := HI2.out
              rw [pi_true (by rw [HM.out]; exact HB.out)] at hh
              exact ⟨by rw [← hh]; rfl, by rw [← hh]; exact HTc.out⟩
            · have hbi : ((i : Int) == b) = false := by simp; omega
              have ibl : i < b := by omega
              by_cases h50 : b - a < 50
              · have d5 : decide ((b : Int) - a < 50) = true := decide_eq_true (by omega)
                go_wp2
                go_ret
                have hh := HI2.out
                rw [pi_short (by rw [HM.out]; exact hbe) h50] at hh
                exact ⟨by rw [← hh]; rfl, by rw [← hh]; exact HTc.out⟩
              · have d5 : decide ((b : Int) - a < 50) = false := decide_eq_false (by omega)
                have HG : Hid (partialIns ltInt a b s i (pUp b i (pDown a i (swp e i i1))) = partialInsertionSort ltInt d a b) := by
                  show _ = _
                  rw [← HI2.out, pi_go HM.out hbe h50, show i - 1 = i1 by omega]
                have bi : (i : Int) < d.size := by omega
                clear HI2 HM h50
                obtain ⟨f1, f2, f3, f4, z5, f5⟩ := HTc.out.1.facts (i := i) (j := i1) (by omega) (by omega)
                obtain ⟨z6, f6⟩ := HTc.out.1.fact6 i (j := i1) (by omega) (.int .u64 e[i1]!)
                have HTs : Hid (To g w (swp e i i1) (((wc.setCell ⟨g, i, none⟩ (.int .u64 e[i1]!)).setCell ⟨g, i1, none⟩ (.int .u64 e[i]!)).drew)) := (HTc.out.trans (HTc.out.1.swap HTc.out.lt (i := i) (j := i1) (by omega) (by omega))).drew
                generalize e[i]! = x at f1 f2 f5 f6 HTs
                generalize e[i1]! = y at f1 f2 f5 f6 HTs
                go_wp2
                go_region
                clear f1 f2 f3 f4 f5 f6
                generalize ((wc.setCell ⟨g, i, none⟩ (.int .u64 y)).setCell ⟨g, i1, none⟩ (.int .u64 x)).drew = wn at *
                have heS : (swp e i i1).size = d.size := by rw [Sort.size_swp]; exact hez
                generalize swp e i i1 = e1 at *
                clear HTc
                by_cases ha2 : i - a ≥ 2
                · have d7 : decide ((2 : Int) ≤ (i : Int) - a) = true := decide_eq_true (by omega)
                  go_wp2
                  go_loopw [9] (fun t wy => ∃ (j : Nat) (e2 : Array Int), t = .int .i64 j ∧ j ≤ i1 ∧ e2.size = d.size ∧ shiftDown ltInt j e2 = shiftDown ltInt i1 e1 ∧ To g w e2 wy) (fun t _ => (intOf t).toNat)
                  case atStart => exact ⟨i1, e1, by first | rfl | go_num, by omega, heS, rfl, HTs.out⟩
                  case round =>
                    clear HTs
                    obtain ⟨j, e2, rfl, hj2, heE, hU, hT2⟩ := hrel
                    have HUd := Hid.mk hU
                    have HTd := Hid.mk hT2
                    clear hU hT2
                    by_cases hj1 : 1 ≤ j
                    · obtain ⟨j1, hj1e⟩ : ∃ j1, j1 + 1 = j := ⟨j - 1, by omega⟩
                      have jj1 : (j : Int) - 1 = (j1 : Int) := by omega
                      obtain ⟨f1, f2, _⟩ := HTd.out.1.facts (i := j) (j := j1) (by omega) (by omega)
                      have hls := less_c e2[j]! e2[j1]!
                      have HGo : Hid (ltInt e2[j]! e2[j1]! = true → shiftDown ltInt j e2 = shiftDown ltInt j1 (swp e2 j j1)) := fun hl => (by have := sd_go (e := e2) hj1 (by rw [show j - 1 = j1 by omega]; exact hl); rwa [show j - 1 = j1 by omega] at this)
                      have HSt : Hid (ltInt e2[j]! e2[j1]! = false → shiftDown ltInt j e2 = e2) := fun hl => sd_stop (Or.inr (by rw [show j - 1 = j1 by omega]; exact hl))
                      generalize hx : e2[j]! = x0 at *
                      generalize hy : e2[j1]! = y0 at *
                      have bj : (j : Int) < d.size := by omega
                      have d6 : decide ((1 : Int) ≤ (j : Int)) = true := decide_eq_true (by omega)
                      clear hx hy
                      go_wp2
                      go_quiet ((refine Calls.quiet_of_same ((hls _).mono (fun e w1 hh => ⟨hh.1, hh.2.symm⟩))))
                      have HTq := Hid.mk (HTd.out.drewN nq)
                      clear f1 f2 hls HTd
                      generalize World.drewN _ nq = wq at *
                      cases hc : ltInt x0 y0 with
                      | true =>
                        rw [hc] at HGo HSt
                        obtain ⟨f1, f2, f3, f4, z5, f5⟩ := HTq.out.1.facts (i := j) (j := j1) (by omega) (by omega)
                        obtain ⟨z6, f6⟩ := HTq.out.1.fact6 j (j := j1) (by omega) (.int .u64 e2[j1]!)
                        have HTs : Hid (To g w (swp e2 j j1) (((wq.setCell ⟨g, j, none⟩ (.int .u64 e2[j1]!)).setCell ⟨g, j1, none⟩ (.int .u64 e2[j]!)).drew)) := (HTq.out.trans (HTq.out.1.swap HTq.out.lt (i := j) (j := j1) (by omega) (by omega))).drew
                        generalize e2[j]! = x at f1 f2 f5 f6 HTs
                        generalize e2[j1]! = y at f1 f2 f5 f6 HTs
                        go_wp2
                        go_region
                        clear f1 f2 f3 f4 f5 f6
                        generalize ((wq.setCell ⟨g, j, none⟩ (.int .u64 y)).setCell ⟨g, j1, none⟩ (.int .u64 x)).drew = wn at *
                        go_wp2
                        refine ⟨⟨j1, swp e2 j j1, by first | rfl | go_num, by omega, by rw [Sort.size_swp]; exact heE, by rw [← HUd.out, ← HGo.out (by trivial)], HTs.out⟩, by first | (simp [intOf]; done) | (simp [intOf]; omega)⟩
                      | false =>
                        rw [hc] at HGo HSt
                        have HD : Hid (pDown a i e1 = e2) := by
                          show _ = _
                          unfold pDown; rw [if_pos ha2]
                          show shiftDown ltInt (i - 1) e1 = e2
                          rw [show i - 1 = i1 by omega, ← HUd.out, HSt.out (by trivial)]
                        clear hc HGo HSt HUd
                        try simp only [Bool.not_false]
                        by_cases hb2 : b - i ≥ 2
                        · have d8 : decide ((2 : Int) ≤ (b : Int) - (i : Int)) = true := decide_eq_true (by omega)
                          go_wp2
                          go_loopw [10] (fun t wy => ∃ (m : Nat) (e3 : Array Int), t = .int .i64 m ∧ i + 1 ≤ m ∧ m ≤ b ∧ e3.size = d.size ∧ shiftUp ltInt b m e3 = shiftUp ltInt b (i + 1) e2 ∧ To g w e3 wy) (fun t _ => ((b : Int) + 1 - intOf t).toNat)
                          case atStart => exact ⟨i + 1, e2, by first | rfl | go_num, by omega, by omega, heE, rfl, HTq.out⟩
                          case round =>
                            clear HTq
                            obtain ⟨m, e3, rfl, hm1, hm2, hz3, hU, hT3⟩ := hrel
                            have HU := Hid.mk hU
                            have HT3 := Hid.mk hT3
                            clear hU hT3
                            obtain ⟨m1, hm1e⟩ : ∃ m1, m1 + 1 = m := ⟨m - 1, by omega⟩
                            have mm1 : (m : Int) - 1 = (m1 : Int) := by omega
                            by_cases hmb : m < b
                            · have d9 : decide ((m : Int) < b) = true := decide_eq_true (by omega)
                              obtain ⟨f1, f2, _⟩ := HT3.out.1.facts (i := m) (j := m1) (by omega) (by omega)
                              have hls := less_c e3[m]! e3[m1]!
                              have HGo : Hid (ltInt e3[m]! e3[m1]! = true → shiftUp ltInt b m e3 = shiftUp ltInt b (m + 1) (swp e3 m m1)) := fun hl => (by have := su_go (e := e3) hmb (by rw [show m - 1 = m1 by omega]; exact hl); rwa [show m - 1 = m1 by omega] at this)
                              have HSt : Hid (ltInt e3[m]! e3[m1]! = false → shiftUp ltInt b m e3 = e3) := fun hl => su_stop (Or.inr (by rw [show m - 1 = m1 by omega]; exact hl))
                              generalize hx : e3[m]! = x2 at *
                              generalize hy : e3[m1]! = y2 at *
                              have bm : (m : Int) < d.size := by omega
                              clear hx hy
                              go_wp2
                              go_quiet ((refine Calls.quiet_of_same ((hls _).mono (fun e w1 hh => ⟨hh.1, hh.2.symm⟩))))
                              have HTp := Hid.mk (HT3.out.drewN nq)
                              clear f1 f2 hls HT3
                              generalize World.drewN _ nq = wp at *
                              cases hc : ltInt x2 y2 with
                              | true =>
                                rw [hc] at HGo HSt
                                obtain ⟨f1, f2, f3, f4, z5, f5⟩ := HTp.out.1.facts (i := m) (j := m1) (by omega) (by omega)
                                obtain ⟨z6, f6⟩ := HTp.out.1.fact6 m (j := m1) (by omega) (.int .u64 e3[m1]!)
                                have HTs : Hid (To g w (swp e3 m m1) (((wp.setCell ⟨g, m, none⟩ (.int .u64 e3[m1]!)).setCell ⟨g, m1, none⟩ (.int .u64 e3[m]!)).drew)) := (HTp.out.trans (HTp.out.1.swap HTp.out.lt (i := m) (j := m1) (by omega) (by omega))).drew
                                generalize e3[m]! = x at f1 f2 f5 f6 HTs
                                generalize e3[m1]! = y at f1 f2 f5 f6 HTs
                                go_wp2
                                go_region
                                clear f1 f2 f3 f4 f5 f6
                                generalize ((wp.setCell ⟨g, m, none⟩ (.int .u64 y)).setCell ⟨g, m1, none⟩ (.int .u64 x)).drew = wn at *
                                go_wp2
                                refine ⟨⟨m + 1, swp e3 m m1, by first | rfl | go_num, by omega, by omega, by rw [Sort.size_swp]; exact hz3, by rw [← HU.out, ← HGo.out (by trivial)], HTs.out⟩, by first | (simp [intOf]; done) | (simp [intOf]; omega)⟩
                              | false =>
                                rw [hc] at HGo HSt
                                have HEnd : Hid (pUp b i e2 = e3) := by
                                  show _ = _
                                  unfold pUp; rw [if_pos (by omega), ← HU.out, HSt.out (by trivial)]
                                go_wp2
                                refine ⟨⟨i, k + 1, e3, by first | rfl | go_num, by first | rfl | go_num, by omega, by omega, by omega, hz3, ?_, HTp.out⟩, by first | (simp [intOf]; done) | (simp [intOf]; omega)⟩
                                rw [HS5.out, ← HG.out, HD.out, HEnd.out]
                            · have d9 : decide ((m : Int) < b) = false := decide_eq_false (by omega)
                              have HEnd : Hid (pUp b i e2 = e3) := by
                                show _ = _
                                unfold pUp; rw [if_pos (by omega), ← HU.out, su_stop (Or.inl hmb)]
                              go_wp2
                              refine ⟨⟨i, k + 1, e3, by first | rfl | go_num, by first | rfl | go_num, by omega, by omega, by omega, hz3, ?_, HT3.out⟩, by first | (simp [intOf]; done) | (simp [intOf]; omega)⟩
                              rw [HS5.out, ← HG.out, HD.out, HEnd.out]
                        · have d8 : decide ((2 : Int) ≤ (b : Int) - (i : Int)) = false := decide_eq_false (by omega)
                          have hz3 := heE
                          have HEnd : Hid (pUp b i e2 = e2) := by
                            show _ = _
                            unfold pUp; rw [if_neg (by omega)]
                          go_wp2
                          refine ⟨⟨i, k + 1, e2, by first | rfl | go_num, by first | rfl | go_num, by omega, by omega, by omega, hz3, ?_, HTq.out⟩, by first | (simp [intOf]; done) | (simp [intOf]; omega)⟩
                          rw [HS5.out, ← HG.out, HD.out, HEnd.out]
                    · have d6 : decide ((1 : Int) ≤ (j : Int)) = false := decide_eq_false (by omega)
                      have HD : Hid (pDown a i e1 = e2) := by
                        show _ = _
                        unfold pDown; rw [if_pos ha2]
                        show shiftDown ltInt (i - 1) e1 = e2
                        rw [show i - 1 = i1 by omega, ← HUd.out, sd_stop (Or.inl (by omega))]
                      clear HUd
                      by_cases hb2 : b - i ≥ 2
                      · have d8 : decide ((2 : Int) ≤ (b : Int) - (i : Int)) = true := decide_eq_true (by omega)
                        go_wp2
                        go_loopw [10] (fun t wy => ∃ (m : Nat) (e3 : Array Int), t = .int .i64 m ∧ i + 1 ≤ m ∧ m ≤ b ∧ e3.size = d.size ∧ shiftUp ltInt b m e3 = shiftUp ltInt b (i + 1) e2 ∧ To g w e3 wy) (fun t _ => ((b : Int) + 1 - intOf t).toNat)
                        case atStart => exact ⟨i + 1, e2, by first | rfl | go_num, by omega, by omega, heE, rfl, HTd.out⟩
                        case round =>
                          clear HTd
                          obtain ⟨m, e3, rfl, hm1, hm2, hz3, hU, hT3⟩ := hrel
                          have HU := Hid.mk hU
                          have HT3 := Hid.mk hT3
                          clear hU hT3
                          obtain ⟨m1, hm1e⟩ : ∃ m1, m1 + 1 = m := ⟨m - 1, by omega⟩
                          have mm1 : (m : Int) - 1 = (m1 : Int) := by omega
                          by_cases hmb : m < b
                          · have d9 : decide ((m : Int) < b) = true := decide_eq_true (by omega)
                            obtain ⟨f1, f2, _⟩ := HT3.out.1.facts (i := m) (j := m1) (by omega) (by omega)
                            have hls := less_c e3[m]! e3[m1]!
                            have HGo : Hid (ltInt e3[m]! e3[m1]! = true → shiftUp ltInt b m e3 = shiftUp ltInt b (m + 1) (swp e3 m m1)) := fun hl => (by have := su_go (e := e3) hmb (by rw [show m - 1 = m1 by omega]; exact hl); rwa [show m - 1 = m1 by omega] at this)
                            have HSt : Hid (ltInt e3[m]! e3[m1]! = false → shiftUp ltInt b m e3 = e3) := fun hl => su_stop (Or.inr (by rw [show m - 1 = m1 by omega]; exact hl))
                            generalize hx : e3[m]! = x2 at *
                            generalize hy : e3[m1]! = y2 at *
                            have bm : (m : Int) < d.size := by omega
                            clear hx hy
                            go_wp2
                            go_quiet ((refine Calls.quiet_of_same ((hls _).mono (fun e w1 hh => ⟨hh.1, hh.2.symm⟩))))
                            have HTp := Hid.mk (HT3.out.drewN nq)
                            clear f1 f2 hls HT3
                            generalize World.drewN _ nq = wp at *
                            cases hc : ltInt x2 y2 with
                            | true =>
                              rw [hc] at HGo HSt
                              obtain ⟨f1, f2, f3, f4, z5, f5⟩ := HTp.out.1.facts (i := m) (j := m1) (by omega) (by omega)
                              obtain ⟨z6, f6⟩ := HTp.out.1.fact6 m (j := m1) (by omega) (.int .u64 e3[m1]!)
                              have HTs : Hid (To g w (swp e3 m m1) (((wp.setCell ⟨g, m, none⟩ (.int .u64 e3[m1]!)).setCell ⟨g, m1, none⟩ (.int .u64 e3[m]!)).drew)) := (HTp.out.trans (HTp.out.1.swap HTp.out.lt (i := m) (j := m1) (by omega) (by omega))).drew
                              generalize e3[m]! = x at f1 f2 f5 f6 HTs
                              generalize e3[m1]! = y at f1 f2 f5 f6 HTs
                              go_wp2
                              go_region
                              clear f1 f2 f3 f4 f5 f6
                              generalize ((wp.setCell ⟨g, m, none⟩ (.int .u64 y)).setCell ⟨g, m1, none⟩ (.int .u64 x)).drew = wn at *
                              go_wp2
                              refine ⟨⟨m + 1, swp e3 m m1, by first | rfl | go_num, by omega, by omega, by rw [Sort.size_swp]; exact hz3, by rw [← HU.out, ← HGo.out (by trivial)], HTs.out⟩, by first | (simp [intOf]; done) | (simp [intOf]; omega)⟩
                            | false =>
                              rw [hc] at HGo HSt
                              have HEnd : Hid (pUp b i e2 = e3) := by
                                show _ = _
                                unfold pUp; rw [if_pos (by omega), ← HU.out, HSt.out (by trivial)]
                              go_wp2
                              refine ⟨⟨i, k + 1, e3, by first | rfl | go_num, by first | rfl | go_num, by omega, by omega, by omega, hz3, ?_, HTp.out⟩, by first | (simp [intOf]; done) | (simp [intOf]; omega)⟩
                              rw [HS5.out, ← HG.out, HD.out, HEnd.out]
                          · have d9 : decide ((m : Int) < b) = false := decide_eq_false (by omega)
                            have HEnd : Hid (pUp b i e2 = e3) := by
                              show _ = _
                              unfold pUp; rw [if_pos (by omega), ← HU.out, su_stop (Or.inl hmb)]
                            go_wp2
                            refine ⟨⟨i, k + 1, e3, by first | rfl | go_num, by first | rfl | go_num, by omega, by omega, by omega, hz3, ?_, HT3.out⟩, by first | (simp [intOf]; done) | (simp [intOf]; omega)⟩
                            rw [HS5.out, ← HG.out, HD.out, HEnd.out]
                      · have d8 : decide ((2 : Int) ≤ (b : Int) - (i : Int)) = false := decide_eq_false (by omega)
                        have hz3 := heE
                        have HEnd : Hid (pUp b i e2 = e2) := by
                          show _ = _
                          unfold pUp; rw [if_neg (by omega)]
                        go_wp2
                        refine ⟨⟨i, k + 1, e2, by first | rfl | go_num, by first | rfl | go_num, by omega, by omega, by omega, hz3, ?_, HTd.out⟩, by first | (simp [intOf]; done) | (simp [intOf]; omega)⟩
                        rw [HS5.out, ← HG.out, HD.out, HEnd.out]
                · have d7 : decide ((2 : Int) ≤ (i : Int) - a) = false := decide_eq_false (by omega)
                  have HD : Hid (pDown a i e1 = e1) := by
                    show _ = _
                    unfold pDown; rw [if_neg ha2]
                  have heE := heS
                  by_cases hb2 : b - i ≥ 2
                  · have d8 : decide ((2 : Int) ≤ (b : Int) - (i : Int)) = true := decide_eq_true (by omega)
                    go_wp2
                    go_loopw [10] (fun t wy => ∃ (m : Nat) (e3 : Array Int), t = .int .i64 m ∧ i + 1 ≤ m ∧ m ≤ b ∧ e3.size = d.size ∧ shiftUp ltInt b m e3 = shiftUp ltInt b (i + 1) e1 ∧ To g w e3 wy) (fun t _ => ((b : Int) + 1 - intOf t).toNat)
                    case atStart => exact ⟨i + 1, e1, by first | rfl | go_num, by omega, by omega, heE, rfl, HTs.out⟩
                    case round =>
                      clear HTs
                      obtain ⟨m, e3, rfl, hm1, hm2, hz3, hU, hT3⟩ := hrel
                      have HU := Hid.mk hU
                      have HT3 := Hid.mk hT3
                      clear hU hT3
                      obtain ⟨m1, hm1e⟩ : ∃ m1, m1 + 1 = m := ⟨m - 1, by omega⟩
                      have mm1 : (m : Int) - 1 = (m1 : Int) := by omega
                      by_cases hmb : m < b
                      · have d9 : decide ((m : Int) < b) = true := decide_eq_true (by omega)
                        obtain ⟨f1, f2, _⟩ := HT3.out.1.facts (i := m) (j := m1) (by omega) (by omega)
                        have hls := less_c e3[m]! e3[m1]!
                        have HGo : Hid (ltInt e3[m]! e3[m1]! = true → shiftUp ltInt b m e3 = shiftUp ltInt b (m + 1) (swp e3 m m1)) := fun hl => (by have := su_go (e := e3) hmb (by rw [show m - 1 = m1 by omega]; exact hl); rwa [show m - 1 = m1 by omega] at this)
                        have HSt : Hid (ltInt e3[m]! e3[m1]! = false → shiftUp ltInt b m e3 = e3) := fun hl => su_stop (Or.inr (by rw [show m - 1 = m1 by omega]; exact hl))
                        generalize hx : e3[m]! = x2 at *
                        generalize hy : e3[m1]! = y2 at *
                        have bm : (m : Int) < d.size := by omega
                        clear hx hy
                        go_wp2
                        go_quiet ((refine Calls.quiet_of_same ((hls _).mono (fun e w1 hh => ⟨hh.1, hh.2.symm⟩))))
                        have HTp := Hid.mk (HT3.out.drewN nq)
                        clear f1 f2 hls HT3
                        generalize World.drewN _ nq = wp at *
                        cases hc : ltInt x2 y2 with
                        | true =>
                          rw [hc] at HGo HSt
                          obtain ⟨f1, f2, f3, f4, z5, f5⟩ := HTp.out.1.facts (i := m) (j := m1) (by omega) (by omega)
                          obtain ⟨z6, f6⟩ := HTp.out.1.fact6 m (j := m1) (by omega) (.int .u64 e3[m1]!)
                          have HTs : Hid (To g w (swp e3 m m1) (((wp.setCell ⟨g, m, none⟩ (.int .u64 e3[m1]!)).setCell ⟨g, m1, none⟩ (.int .u64 e3[m]!)).drew)) := (HTp.out.trans (HTp.out.1.swap HTp.out.lt (i := m) (j := m1) (by omega) (by omega))).drew
                          generalize e3[m]! = x at f1 f2 f5 f6 HTs
                          generalize e3[m1]! = y at f1 f2 f5 f6 HTs
                          go_wp2
                          go_region
                          clear f1 f2 f3 f4 f5 f6
                          generalize ((wp.setCell ⟨g, m, none⟩ (.int .u64 y)).setCell ⟨g, m1, none⟩ (.int .u64 x)).drew = wn at *
                          go_wp2
                          refine ⟨⟨m + 1, swp e3 m m1, by first | rfl | go_num, by omega, by omega, by rw [Sort.size_swp]; exact hz3, by rw [← HU.out, ← HGo.out (by trivial)], HTs.out⟩, by first | (simp [intOf]; done) | (simp [intOf]; omega)⟩
                        | false =>
                          rw [hc] at HGo HSt
                          have HEnd : Hid (pUp b i e1 = e3) := by
                            show _ = _
                            unfold pUp; rw [if_pos (by omega), ← HU.out, HSt.out (by trivial)]
                          go_wp2
                          refine ⟨⟨i, k + 1, e3, by first | rfl | go_num, by first | rfl | go_num, by omega, by omega, by omega, hz3, ?_, HTp.out⟩, by first | (simp [intOf]; done) | (simp [intOf]; omega)⟩
                          rw [HS5.out, ← HG.out, HD.out, HEnd.out]
                      · have d9 : decide ((m : Int) < b) = false := decide_eq_false (by omega)
                        have HEnd : Hid (pUp b i e1 = e3) := by
                          show _ = _
                          unfold pUp; rw [if_pos (by omega), ← HU.out, su_stop (Or.inl hmb)]
                        go_wp2
                        refine ⟨⟨i, k + 1, e3, by first | rfl | go_num, by first | rfl | go_num, by omega, by omega, by omega, hz3, ?_, HT3.out⟩, by first | (simp [intOf]; done) | (simp [intOf]; omega)⟩
                        rw [HS5.out, ← HG.out, HD.out, HEnd.out]
                  · have d8 : decide ((2 : Int) ≤ (b : Int) - (i : Int)) = false := decide_eq_false (by omega)
                    have hz3 := heE
                    have HEnd : Hid (pUp b i e1 = e1) := by
                      show _ = _
                      unfold pUp; rw [if_neg (by omega)]
                    go_wp2
                    refine ⟨⟨i, k + 1, e1, by first | rfl | go_num, by first | rfl | go_num, by omega, by omega, by omega, hz3, ?_, HTs.out⟩, by first | (simp [intOf]; done) | (simp [intOf]; omega)⟩
                    rw [HS5.out, ← HG.out, HD.out, HEnd.out]
    · obtain rfl : k = 5 := by omega
      have HI2 : Hid ((e, false) = partialInsertionSort ltInt d a b) := HI.out
      clear HI
      go_wp2
      go_ret
      exact ⟨by rw [← HI2.out]; rfl, by rw [← HI2.out]; exact HT.out⟩
end Go.Proofs.Ytiedlkhbbnjkbaa
