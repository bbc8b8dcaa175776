/- pdqsort at words. -/
import Derived.Test.YtiedlkhbbnjkbaaSortSt
import Derived.Test.YtiedlkhbbnjkbaaSortIns
import Derived.Test.YtiedlkhbbnjkbaaSortHeap
import Derived.Deep.Cut
namespace Go.Proofs.Ytiedlkhbbnjkbaa
open Go.RowKit
open Go.Sort (swp ltInt PermIn SortedIn insertionSort heapSort partialInsertionSort)

def PdqPost (g a b : Nat) (w : World) (d : Array Int) (r : Ending) (w' : World) : Prop :=
  r = .returned (.tuple #[]) ∧ ∃ e, PermIn a b d e ∧ SortedIn ltInt a b e ∧ To g w e w'

theorem St.close {a b a' b' g : Nat} {d e R : Array Int} {w w' : World} (h : St a b d a' b' e) (h1 : PermIn a' b' e R) (h2 : SortedIn ltInt a' b' R) (h3 : To g w R w') : PdqPost g a b w d (.returned (.tuple #[])) w' :=
  ⟨rfl, R, (h.fin R h1 h2).1, (h.fin R h1 h2).2, h3⟩

set_option maxHeartbeats 6400000 in
set_option maxRecDepth 1000000 in
theorem pdq_c : ∀ (N : Nat) (w : World) (g : Nat) (d : Array Int) (cap a b lim : Nat), b - a < N → Rw w g d → g < w.heap.size → a ≤ b → b ≤ d.size → d.size < 4611686018427387904 → lim < 4611686018427387904 → Sort.Below ltInt a b d →
    Calls Try.prog 42 #[.slice (some ⟨g, 0, none⟩) d.size cap, .int .i64 a, .int .i64 b, .int .i64 lim] w fun r w' => PdqPost g a b w d r w' := by
  intro N
  induction N with
  | zero => intro _ _ _ _ _ _ _ h; exact absurd h (Nat.not_lt_zero _)
  | succ N ih =>
    intro w g d cap a b lim0 hN hR hg hab hb hs hl0 hB
    have HS0 := Hid.mk (And.intro (St.start hab hb hB) (To.refl hR hg))
    have IH := Hid.mk ih
    clear ih hR hB
    go_enter Try.func42, Try.ntmps42
    go_wp2
    go_loopg [1, 2, 3, 8, 9] (b - a) (fun k s1 s2 s3 s8 s9 wr => ∃ (a' b' lim : Nat) (wb wp : Bool) (e : Array Int), s1 = .int .i64 a' ∧ s2 = .int .i64 b' ∧ s3 = .int .i64 lim ∧ s8 = .bool wb ∧ s9 = .bool wp ∧
      b' - a' ≤ k ∧ k ≤ b - a ∧ lim ≤ lim0 ∧ St a b d a' b' e ∧ To g w e wr)
    case atStart => exact ⟨a, b, lim0, true, true, d, rfl, rfl, rfl, rfl, rfl, Nat.le_refl _, Nat.le_refl _, Nat.le_refl _, HS0.out⟩
    case round =>
      clear HS0
      obtain ⟨a', b', lim, wb, wp, e, rfl, rfl, rfl, rfl, rfl, hk, hkN, hlim, hSt, hTo⟩ := hrel
      have hab' := hSt.le
      have hb' := hSt.hi
      have hez := hSt.sz
      have HS := Hid.mk hSt
      have HT := Hid.mk hTo
      clear hSt hTo
      by_cases h12 : b' - a' ≤ 12
      · have h12z : (b' : Int) - (a' : Int) ≤ 12 := by omega
        have hc := ins_c cap a' b' HT.out.1 HT.out.lt hab' (by omega) (by omega)
        rw [hez] at hc
        go_wp2_with (go_at_call 45; refine hc.mono ?_; rintro e1 w1 ⟨rfl, hw1⟩)
        (try simp only [Exit.inBlock, Exit.then]); refine bodyPost_ret (results_none rfl _ _ _) rfl ?_
        obtain ⟨q1, q2⟩ := Sort.insertionSort_holds Sort.swo_ltInt e a' b' hab' (by omega)
        exact HS.out.close q1 q2 (HT.out.trans hw1)
      · have h12z : ¬ ((b' : Int) - (a' : Int) ≤ 12) := by omega
        by_cases hz : lim = 0
        · subst hz
          have hc := heap_c cap a' b' HT.out.1 HT.out.lt hab' (by omega) (by omega)
          rw [hez] at hc
          go_wp2_with (go_at_call 46; refine hc.mono ?_; rintro e1 w1 ⟨rfl, hw1⟩)
          (try simp only [Exit.inBlock, Exit.then]); refine bodyPost_ret (results_none rfl _ _ _) rfl ?_
          obtain ⟨q1, q2⟩ := Sort.heapSort_holds Sort.swo_ltInt e a' b' hab' (by omega)
          exact HS.out.close q1 q2 (HT.out.trans hw1)
        · have hlz : ¬ ((lim : Int) = 0) := by omega
          go_upto_if 35 with fail
          go_cut [3] from 19 (fun s3 wc => ∃ (lim1 : Nat) (e1 : Array Int), s3 = .int .i64 lim1 ∧ lim1 ≤ lim0 ∧ St a b d a' b' e1 ∧ To g w e1 wc)
          case first =>
            cases wb
            · have hc := break_c cap a' b' HT.out.1 HT.out.lt hab' (by omega) (by omega)
              rw [hez] at hc
              go_wp2_with (go_at_call 47; refine hc.mono ?_; rintro e1 w1 ⟨rfl, hw1⟩)
              go_meet
              case rel =>
                obtain ⟨e2, hp2, ht2⟩ := hw1
                refine ⟨lim - 1, e2, ?_, by omega, HS.out.perm hp2, HT.out.trans ht2⟩
                show Value.int .i64 ((lim : Int) - 1) = Value.int .i64 ((lim - 1 : Nat) : Int)
                congr 1
                omega
            · go_wp2_with fail
              go_meet
              case rel => exact ⟨lim, e, rfl, hlim, HS.out, HT.out⟩
          case rest =>
            obtain ⟨lim1, e1, rfl, hlim1, hSt1, hTo1⟩ := hcut
            have hez1 := hSt1.sz
            have HS1 := Hid.mk hSt1
            have HT1 := Hid.mk hTo1
            clear hSt1 hTo1 HS HT hez hlz hz hlim
            have hc := choose_c cap a' b' HT1.out.1 HT1.out.lt (by omega) (by omega) (by omega)
            rw [hez1] at hc
            go_upto_if 50 with (go_at_call 48; refine hc.mono ?_; rintro ex wx ⟨x, t, rfl, hx1, hx2, ht, hTx⟩)
            have HT2 := Hid.mk (HT1.out.trans hTx)
            clear hc hTx HT1
            go_cut [11, 12] from 19 (fun s11 s12 wc => ∃ (pv : Nat) (t2 : Int) (e2 : Array Int), s11 = .int .i64 pv ∧ s12 = .int .i64 t2 ∧ a' ≤ pv ∧ pv < b' ∧ (t2 = 0 ∨ t2 = 1) ∧ St a b d a' b' e2 ∧ To g w e2 wc)
            case first =>
              by_cases h2 : t = 2
              · subst h2
                have hc := reverse_c cap a' b' HT2.out.1 HT2.out.lt hab' (by omega) (by omega)
                rw [hez1] at hc
                go_wp2_with (go_at_call 49; refine hc.mono ?_; rintro e3 w3 ⟨rfl, hw3⟩)
                go_meet
                case rel =>
                  obtain ⟨e2, hp2, ht2⟩ := hw3
                  refine ⟨b' - 1 - (x - a'), 1, e2, ?_, rfl, by omega, by omega, by omega, HS1.out.perm hp2, HT2.out.trans ht2⟩
                  congr 1
                  omega
              · go_wp2_with fail
                go_meet
                case rel => exact ⟨x, t, e1, rfl, rfl, hx1, hx2, by omega, HS1.out, HT2.out⟩
            case rest =>
              clear HS1 HT2 hez1 hx1 hx2 ht
              obtain ⟨pv, t2, e2, rfl, rfl, hp1, hp2, ht2, hSt2, hTo2⟩ := hcut
              have hez2 := hSt2.sz
              have HS2 := Hid.mk hSt2
              have HT2 := Hid.mk hTo2
              clear hSt2 hTo2
              go_upto_region 15 with fail
              go_cut [12, 68] from 19 (fun s12 s68 wx => s12 = .int .i64 t2 ∧ s68 = .bool (wb && wp && decide (t2 = 1)) ∧ wx = wc)
              case first =>
                rcases ht2 with rfl | rfl <;> cases wb <;> cases wp <;>
                  (go_wp2_with fail
                   go_meet
                   exact ⟨rfl, by simp, rfl⟩)
              case rest =>
                obtain ⟨rfl, rfl, rfl⟩ := hcut
                go_upto_if 68 with fail
                go_cut [] from 19 (fun wx => ∃ e3 : Array Int, St a b d a' b' e3 ∧ To g w e3 wx)
                case first =>
                  cases h68 : (wb && wp && decide (t2 = 1))
                  · go_wp2_with fail
                    go_meet
                    case rel => exact ⟨e2, HS2.out, HT2.out⟩
                  · have hc := pins_c cap a' b' HT2.out.1 HT2.out.lt (by omega) (by omega) (by omega)
                    rw [hez2] at hc
                    obtain ⟨P, hP⟩ : ∃ P, P = partialInsertionSort ltInt e2 a' b' := ⟨_, rfl⟩
                    have hc2 : Calls Try.prog 50 #[.slice (some ⟨g, 0, none⟩) d.size cap, .int .i64 a', .int .i64 b'] wc fun r w' => r = .returned (.bool P.2) ∧ To g wc P.1 w' := by
                      rw [hP]; exact hc
                    obtain ⟨q1, q2⟩ := Sort.partialInsertionSort_holds Sort.swo_ltInt e2 a' b' (by omega) (by omega) HS2.out.bel
                    rw [← hP] at q1 q2
                    have HQ := Hid.mk (And.intro q1 q2)
                    clear hc hP q1 q2
                    cases hp : P.2
                    · rw [hp] at hc2
                      go_wp2_with (go_at_call 50; refine hc2.mono ?_; rintro e3 w3 ⟨rfl, hw3⟩)
                      go_meet
                      exact ⟨P.1, HS2.out.perm HQ.out.1, HT2.out.trans hw3⟩
                    · rw [hp] at hc2
                      go_wp2_with (go_at_call 50; refine hc2.mono ?_; rintro e3 w3 ⟨rfl, hw3⟩)
                      (try simp only [Exit.inBlock, Exit.then]); refine bodyPost_ret (results_none rfl _ _ _) rfl ?_
                      exact HS2.out.close HQ.out.1 (HQ.out.2 hp) (HT2.out.trans hw3)
                case rest =>
                  clear HS2 HT2 hez2 ht2
                  obtain ⟨e3, hSt3, hTo3⟩ := hcut
                  have hez3 := hSt3.sz
                  have HS3 := Hid.mk hSt3
                  have HT3 := Hid.mk hTo3
                  clear hSt3 hTo3
                  go_upto_region 17 with fail
                  go_cut [87] from 19 (fun s87 wx => ∃ q : Bool, s87 = .bool q ∧ (q = true → 0 < a' ∧ ltInt e3[a' - 1]! e3[pv]! = false) ∧ To g w e3 wx)
                  case first =>
                    by_cases ha0 : a' = 0
                    · have ha0z : decide ((a' : Int) > 0) = false := decide_eq_false (by omega)
                      go_quiet (fail)
                      have HT4 := Hid.mk (HT3.out.drewN nq)
                      go_wp2_with fail
                      go_meet
                      case rel => exact ⟨false, rfl, by simp, HT4.out⟩
                    · have ha0z : decide ((0 : Int) < a') = true := decide_eq_true (by omega)
                      have ha0n : decide (0 < a') = true := decide_eq_true (by omega)
                      have ha0p : 0 < a' := by omega
                      obtain ⟨ap, hap⟩ : ∃ ap, ap = a' - 1 := ⟨_, rfl⟩
                      have iap : (a' : Int) - 1 = (ap : Int) := by omega
                      obtain ⟨f1, f2, _⟩ := HT3.out.1.facts (i := ap) (j := pv) (by omega) (by omega)
                      have hls := less_c e3[ap]! e3[pv]!
                      have bap : (ap : Int) < d.size := by omega
                      have bpv : (pv : Int) < d.size := by omega
                      generalize hx : e3[ap]! = x1 at *
                      generalize hy : e3[pv]! = y1 at *
                      have HX := Hid.mk hx
                      have HY := Hid.mk hy
                      have HA := Hid.mk hap
                      clear hx hy hap
                      go_quiet ((refine Calls.quiet_of_same ((hls _).mono (fun e w1 hh => ⟨hh.1, hh.2.symm⟩))))
                      have HT4 := Hid.mk (HT3.out.drewN nq)
                      clear f1 f2 hls
                      generalize wc.drewN nq = wq at *
                      cases hlt : ltInt x1 y1
                      · go_wp2_with fail
                        go_meet
                        case rel => exact ⟨true, rfl, fun _ => ⟨by omega, by rw [← HA.out, HX.out]; exact hlt⟩, HT4.out⟩
                      · go_wp2_with fail
                        go_meet
                        case rel => exact ⟨false, rfl, by simp, HT4.out⟩
                  case rest =>
                    clear HT3
                    obtain ⟨q, rfl, hq, hTo4⟩ := hcut
                    have HT4 := Hid.mk hTo4
                    have HQ := Hid.mk hq
                    clear hTo4 hq
                    cases q
                    · have hc := part_c cap a' b' pv HT4.out.1 HT4.out.lt hp1 hp2 (by omega) (by omega)
                      rw [hez3] at hc
                      go_upto_if 113 with (go_at_call 53; refine hc.mono ?_; rintro ex w5 ⟨m, e5, al, rfl, hPa, hT5⟩; have hm1 := hPa.1; have hm2 := hPa.2.1)
                      have hez5 : e5.size = d.size := hPa.2.2.1.1.trans hez3
                      have HP := Hid.mk hPa
                      have HT5 := Hid.mk (HT4.out.trans hT5)
                      clear hPa hT5 hc HT4 HQ
                      by_cases h4 : m - a' < b' - m
                      · have h4z : (m : Int) - (a' : Int) < (b' : Int) - (m : Int) := by omega
                        have hih := IH.out _ _ _ cap a' m lim1 (by omega) HT5.out.1 HT5.out.lt (by omega) (by omega) (by omega) (by omega) (HP.out.belL (by omega) HS3.out.bel)
                        rw [hez5] at hih
                        go_wp2_with (go_at_call 42; refine hih.mono ?_; rintro e8 w8 ⟨rfl, hw8⟩)
                        have HW := Hid.mk hw8
                        clear hih hw8
                        go_roundg (b' - (m + 1))
                        case measure => omega
                        case rel =>
                          obtain ⟨L, hL1, hL2, hL3⟩ := HW.out
                          exact ⟨m + 1, b', lim1, _, al, L, by simp, rfl, rfl, rfl, rfl, Nat.le_refl _, by omega, hlim1, HS3.out.left HP.out hL1 hL2, HT5.out.trans hL3⟩
                      · have h4z : ¬ ((m : Int) - (a' : Int) < (b' : Int) - (m : Int)) := by omega
                        have hih := IH.out _ _ _ cap (m + 1) b' lim1 (by omega) HT5.out.1 HT5.out.lt (by omega) (by omega) (by omega) (by omega) HP.out.belR
                        rw [hez5] at hih
                        go_wp2_with (go_at_call 42; refine hih.mono ?_; rintro e8 w8 ⟨rfl, hw8⟩)
                        have HW := Hid.mk hw8
                        clear hih hw8
                        go_roundg (m - a')
                        case measure => omega
                        case rel =>
                          obtain ⟨L, hL1, hL2, hL3⟩ := HW.out
                          exact ⟨a', m, lim1, _, al, L, rfl, rfl, rfl, rfl, rfl, Nat.le_refl _, by omega, hlim1, HS3.out.right HP.out hL1 hL2, HT5.out.trans hL3⟩
                    · have hc := parteq_c cap a' b' pv HT4.out.1 HT4.out.lt hp1 hp2 (by omega) (by omega)
                      rw [hez3] at hc
                      obtain ⟨ha0, hlt⟩ := HQ.out rfl
                      have HL := Hid.mk hlt
                      clear hlt HQ
                      go_wp2_with (go_at_call 52; refine hc.mono ?_; rintro ex w5 ⟨m, e5, rfl, hPe, hT5⟩; have hm1 := hPe.1; have hm2 := hPe.2.1)
                      have HP := Hid.mk hPe
                      have HT5 := Hid.mk (HT4.out.trans hT5)
                      clear hPe hT5 HT4
                      go_roundg (b' - m)
                      case measure => omega
                      case rel => exact ⟨m, b', lim1, wb, wp, e5, rfl, rfl, rfl, rfl, rfl, Nat.le_refl _, by omega, hlim1, HS3.out.eq HP.out ha0 HL.out, HT5.out⟩
end Go.Proofs.Ytiedlkhbbnjkbaa
