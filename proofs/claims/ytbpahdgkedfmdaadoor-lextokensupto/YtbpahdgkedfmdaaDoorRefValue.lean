/- The walk of the document's Value: characters in a slice are the number that they say. -/
import Derived.Test.YtbpahdgkedfmdaaDoorRefLexA
import Derived.Deep.DeepCutAuto
import Derived.Laws.Bits64b
namespace Go.Proofs.YtbpahdgkedfmdaaDoor
open Go.RowKit Go.Lib

theorem rvalue_none (ao : Option Addr) (cap : Nat) (w : World) : Calls Tryd.prog 14 #[.slice ao 0 cap] w fun e w' => e = .returned (.tuple #[.int .u64 0, .int .i64 61]) ∧ w = w' := by
  go_enter Tryd.func14, Tryd.ntmps14
  go_wp2
  refine wp_loop_rounds 1 ?_
  rw [rounds_succ]
  go_wp2
  go_ret2
  exact ⟨rfl, rfl⟩

def pfx (zs : List Nat) : Bool := [48, 120].isPrefixOf zs
theorem pfx_yes (zs : List Nat) (h : pfx zs = true) : ∃ t, zs = 48 :: 120 :: t := by
  match zs, h with
  | a :: b :: t, h => simp [pfx, List.isPrefixOf] at h; obtain ⟨rfl, rfl⟩ := h; exact ⟨t, rfl⟩
  | [a], h => simp [pfx, List.isPrefixOf] at h
  | [], h => simp [pfx, List.isPrefixOf] at h
theorem pfx_no (zs : List Nat) (h : pfx zs = false) : ∀ t, zs ≠ 48 :: 120 :: t := fun t e => by rw [e] at h; simp [pfx, List.isPrefixOf] at h
theorem pfx_two (a b : Nat) (t : List Nat) : pfx (a :: b :: t) = (decide (a = 48) && decide (b = 120)) := by
  simp only [pfx, List.isPrefixOf, Bool.and_true]
  rw [Bool.eq_iff_iff]; simp; omega

set_option maxRecDepth 100000 in
set_option maxHeartbeats 16000000 in
theorem rvalue_pos (zs : List Nat) (b off cap : Nat) (w : World) (hn : 0 < zs.length) (hcap : zs.length ≤ cap) (hsz : zs.length ≤ 1000000) (hz : ∀ z ∈ zs, z ≤ 1114111) (hc : ∀ i (h : i < zs.length), w.cell? ⟨b, off + i, none⟩ = some (.int .i64 (zs[i] : Nat))) :
    Calls Tryd.prog 14 #[.slice (some ⟨b, off, none⟩) zs.length cap] w fun e w' => e = .returned (.tuple #[.int .u64 (valW zs), .int .i64 (valE zs)]) ∧ w = w' := by
  unfold valW valE
  generalize hANS : valS zs = ANS
  go_enter Tryd.func14, Tryd.ntmps14
  go_upto_region 2 with fail
  go_cut [25] (fun m wc => m = .bool (pfx zs) ∧ wc = w)
  case first =>
    match zs, hn, hcap, hsz, hc with
    | [a], _, hcap, _, _ =>
      have h1 : (([a] : List Nat).length : Int) = 1 := rfl
      have hp : Hid (pfx [a] = false) := by show _ = _; simp [pfx, List.isPrefixOf]
      clear hc
      go_wp2
      go_meet
      exact ⟨by rw [hp.out], rfl⟩
    | z0 :: z1 :: t, _, hcap, _, hc =>
      have c0 := hc 0 (by simp)
      have c1 := hc 1 (by simp)
      simp only [List.getElem_cons_zero, List.getElem_cons_succ, Nat.add_zero] at c0 c1
      have hlen : (z0 :: z1 :: t).length = t.length + 2 := rfl
      have HP := pfx_two z0 z1 t
      have HP2 : Hid (pfx (z0 :: z1 :: t) = (decide (z0 = 48) && decide (z1 = 120))) := HP
      have hz0 := hz z0 (by simp)
      have hz1 := hz z1 (by simp)
      rw [hlen] at *
      clear HP hc hz
      by_cases e0 : z0 = 48
      · subst e0
        go_wp2
        go_meet
        refine ⟨?_, rfl⟩
        rw [HP2.out]
        congr 1
        rw [Bool.eq_iff_iff]
        simp
        omega
      · have e0z : ¬ ((z0 : Int) = 48) := by omega
        go_wp2
        all_goals
          go_meet
          refine ⟨?_, rfl⟩
          rw [HP2.out]
          simp [e0]
  case rest =>
    obtain ⟨rfl, rfl⟩ := hcut
    cases hp : pfx zs
    · have HS : Hid (valGo 10 (zs.drop 0) 0 false false = ANS) := (valS_dec zs (pfx_no zs hp)).symm.trans hANS
      have HC : Hid (∀ i (h : i < zs.length), wc.cell? ⟨b, off + i, none⟩ = some (.int .i64 (zs[i] : Nat))) := hc
      have HZ : Hid (∀ z ∈ zs, z ≤ 1114111) := hz
      clear hc hz hANS hp
      go_wp2
      go_loop [5, 6, 7, 8] (fun n o wa i => ∃ (k x : Nat) (was over : Bool), k ≤ zs.length ∧ i = .int .i64 k ∧ n = .int .u64 x ∧ x < 18446744073709551616 ∧ o = .bool over ∧ wa = .bool was ∧ Hid (valGo 10 (zs.drop k) x was over = ANS)) (fun _ _ _ i => zs.length - (RowKit.intOf i).toNat)
      case atStart => exact ⟨0, 0, false, false, by omega, rfl, rfl, by omega, rfl, rfl, HS⟩
      case round =>
        obtain ⟨k, x, was, over, hk, rfl, rfl, hx, rfl, rfl, HV⟩ := hrel
        by_cases hlt : k < zs.length
        · have hcell := HC.out k hlt
          have hr := HZ.out _ (List.getElem_mem hlt)
          have HN := HV.out
          rw [List.drop_eq_getElem_cons hlt] at HN
          have hk0 : (0 : Int) ≤ (k : Int) := by omega
          have hk1 : (k : Int) < (zs.length : Int) := by omega
          clear HV
          generalize zs[k] = r at *
          have cD := rdigit_any r wc
          by_cases hdg : 48 ≤ r ∧ r ≤ 57
          · obtain ⟨d, rfl⟩ : ∃ d, r = 48 + d := ⟨r - 48, by omega⟩
            have hd : digv 10 (48 + d) = some d := by unfold digv; rw [if_pos hdg]; congr 1; omega
            rw [show isDig (48 + d) = true from decide_eq_true hdg] at cD
            have hdz : (48 : Int) + (d : Int) - 48 = (d : Int) := by omega
            clear hdg
            rw [valGo_some 10 _ d (zs.drop (k + 1)) x was over hd] at HN
            have hdl := digv_lt 10 _ d hd
            have hm : (x * 10 + d) % 18446744073709551616 < 18446744073709551616 := Nat.mod_lt _ (by omega)
            have HN2 : Hid (valGo 10 (zs.drop (k + 1)) ((x * 10 + d) % 18446744073709551616) true (over || decide (18446744073709551616 ≤ x * 10 + d)) = ANS) := HN
            clear HN
            by_cases hbig : 18446744073709551616 ≤ x * 10 + d
            · have htop : ((18446744073709551615 - (d : Int)) / 10) < (x : Int) := by omega
              have hov : (over || decide (18446744073709551616 ≤ x * 10 + d)) = true := by simp [hbig]
              rw [hov] at HN2
              obtain ⟨y, hy⟩ : ∃ y, (x * 10 + d) % 18446744073709551616 = y := ⟨_, rfl⟩
              rw [hy] at HN2 hm
              have hw1 : IntKind.u64.wrap (IntKind.u64.wrap ((x : Int) * 10) + (d : Int)) = (y : Int) := by rw [IntKind.wrap_u64, IntKind.wrap_u64]; omega
              have hw3 : IntKind.u64.wrap ((x : Int) * 10 + (d : Int)) = (y : Int) := by rw [IntKind.wrap_u64]; omega
              clear hbig hov hy
              cases over
              · go_wp2_with (go_at_call 25; refine cD.mono ?_; rintro e w' ⟨rfl, rfl⟩)
                go_round
                case rel => exact ⟨k + 1, y, true, true, by omega, by go_num, by first | rfl | (congr 1; omega) | simp_all, hm, rfl, by first | rfl | (congr 1; exact decide_eq_true (by omega)), HN2⟩
                case measure => simp [RowKit.intOf]; omega
              · go_wp2_with (go_at_call 25; refine cD.mono ?_; rintro e w' ⟨rfl, rfl⟩)
                go_round
                case rel => exact ⟨k + 1, y, true, true, by omega, by go_num, by first | rfl | (congr 1; omega) | simp_all, hm, rfl, by first | rfl | (congr 1; exact decide_eq_true (by omega)), HN2⟩
                case measure => simp [RowKit.intOf]; omega
            · have htop : (x : Int) ≤ ((18446744073709551615 - (d : Int)) / 10) := by omega
              have hov : (over || decide (18446744073709551616 ≤ x * 10 + d)) = over := by simp [hbig]
              have hmm : (x * 10 + d) % 18446744073709551616 = x * 10 + d := Nat.mod_eq_of_lt (by omega)
              rw [hov, hmm] at HN2
              have hlo : x * 10 + d < 18446744073709551616 := by omega
              clear hbig hov hmm hm
              cases over
              · go_wp2_with (go_at_call 25; refine cD.mono ?_; rintro e w' ⟨rfl, rfl⟩)
                go_round
                case rel => exact ⟨k + 1, x * 10 + d, true, false, by omega, by go_num, by first | rfl | (go_num) | (congr 1; omega), hlo, by first | rfl | (simp; omega), by first | rfl | (congr 1; exact decide_eq_true (by omega)), HN2⟩
                case measure => simp [RowKit.intOf]; omega
              · go_wp2_with (go_at_call 25; refine cD.mono ?_; rintro e w' ⟨rfl, rfl⟩)
                go_round
                case rel => exact ⟨k + 1, x * 10 + d, true, true, by omega, by go_num, by first | rfl | (go_num) | (congr 1; omega), hlo, rfl, by first | rfl | (congr 1; exact decide_eq_true (by omega)), HN2⟩
                case measure => simp [RowKit.intOf]; omega
          · have hd : digv 10 r = none := by unfold digv; rw [if_neg hdg, if_neg (by omega)]
            rw [show isDig r = false from decide_eq_false hdg] at cD
            rw [valGo_none 10 r (zs.drop (k + 1)) x was over hd] at HN
            clear hdg hd
            by_cases h97 : 97 ≤ r
            · have h97z : (97 : Int) ≤ (r : Int) := by omega
              by_cases h102' : r ≤ 102
              · have h102 : (r : Int) ≤ 102 := by omega
                by_cases hu : r = 95 ∧ was = true
                · obtain ⟨rfl, rfl⟩ := hu
                  rw [if_pos ⟨rfl, rfl⟩] at HN
                  have HN2 : Hid (valGo 10 (zs.drop (k + 1)) x false over = ANS) := HN
                  clear HN
                  go_wp2_with (go_at_call 25; refine cD.mono ?_; rintro e w' ⟨rfl, rfl⟩)
                  go_round
                  case rel => exact ⟨k + 1, x, false, over, by omega, by go_num, rfl, hx, rfl, rfl, HN2⟩
                  case measure => simp [RowKit.intOf]; omega
                · rw [if_neg hu] at HN
                  have HN2 : Hid ((0, 61) = ANS) := HN
                  clear HN
                  by_cases h95 : r = 95
                  · have hwf : was = false := by cases was; rfl; exact absurd ⟨h95, rfl⟩ hu
                    subst h95 hwf
                    clear hu
                    go_wp2_with (go_at_call 25; refine cD.mono ?_; rintro e w' ⟨rfl, rfl⟩)
                    go_ret2
                    rw [← HN2.out]
                    exact ⟨rfl, rfl⟩
                  · have h95z : ((r : Int) != 95) = true := by simp; omega
                    have h95y : ¬ ((r : Int) = 95) := by omega
                    clear hu
                    go_wp2_with (go_at_call 25; refine cD.mono ?_; rintro e w' ⟨rfl, rfl⟩)
                    all_goals
                      go_ret2
                      rw [← HN2.out]
                      exact ⟨rfl, rfl⟩
              · have h102 : ¬ ((r : Int) ≤ 102) := by omega
                by_cases hu : r = 95 ∧ was = true
                · obtain ⟨rfl, rfl⟩ := hu
                  rw [if_pos ⟨rfl, rfl⟩] at HN
                  have HN2 : Hid (valGo 10 (zs.drop (k + 1)) x false over = ANS) := HN
                  clear HN
                  go_wp2_with (go_at_call 25; refine cD.mono ?_; rintro e w' ⟨rfl, rfl⟩)
                  go_round
                  case rel => exact ⟨k + 1, x, false, over, by omega, by go_num, rfl, hx, rfl, rfl, HN2⟩
                  case measure => simp [RowKit.intOf]; omega
                · rw [if_neg hu] at HN
                  have HN2 : Hid ((0, 61) = ANS) := HN
                  clear HN
                  by_cases h95 : r = 95
                  · have hwf : was = false := by cases was; rfl; exact absurd ⟨h95, rfl⟩ hu
                    subst h95 hwf
                    clear hu
                    go_wp2_with (go_at_call 25; refine cD.mono ?_; rintro e w' ⟨rfl, rfl⟩)
                    go_ret2
                    rw [← HN2.out]
                    exact ⟨rfl, rfl⟩
                  · have h95z : ((r : Int) != 95) = true := by simp; omega
                    have h95y : ¬ ((r : Int) = 95) := by omega
                    clear hu
                    go_wp2_with (go_at_call 25; refine cD.mono ?_; rintro e w' ⟨rfl, rfl⟩)
                    all_goals
                      go_ret2
                      rw [← HN2.out]
                      exact ⟨rfl, rfl⟩
            · have h97z : ¬ ((97 : Int) ≤ (r : Int)) := by omega
              by_cases hu : r = 95 ∧ was = true
              · obtain ⟨rfl, rfl⟩ := hu
                rw [if_pos ⟨rfl, rfl⟩] at HN
                have HN2 : Hid (valGo 10 (zs.drop (k + 1)) x false over = ANS) := HN
                clear HN
                go_wp2_with (go_at_call 25; refine cD.mono ?_; rintro e w' ⟨rfl, rfl⟩)
                go_round
                case rel => exact ⟨k + 1, x, false, over, by omega, by go_num, rfl, hx, rfl, rfl, HN2⟩
                case measure => simp [RowKit.intOf]; omega
              · rw [if_neg hu] at HN
                have HN2 : Hid ((0, 61) = ANS) := HN
                clear HN
                by_cases h95 : r = 95
                · have hwf : was = false := by cases was; rfl; exact absurd ⟨h95, rfl⟩ hu
                  subst h95 hwf
                  clear hu
                  go_wp2_with (go_at_call 25; refine cD.mono ?_; rintro e w' ⟨rfl, rfl⟩)
                  go_ret2
                  rw [← HN2.out]
                  exact ⟨rfl, rfl⟩
                · have h95z : ((r : Int) != 95) = true := by simp; omega
                  have h95y : ¬ ((r : Int) = 95) := by omega
                  clear hu
                  go_wp2_with (go_at_call 25; refine cD.mono ?_; rintro e w' ⟨rfl, rfl⟩)
                  all_goals
                    go_ret2
                    rw [← HN2.out]
                    exact ⟨rfl, rfl⟩
        · have ek : k = zs.length := by omega
          have HN := HV.out
          rw [ek, List.drop_length, valGo_nil] at HN
          have hkz : ¬ (k : Int) < (zs.length : Int) := by omega
          clear HV
          cases was
          · rw [if_pos rfl] at HN
            have HN2 : Hid ((0, 61) = ANS) := HN
            clear HN
            go_wp2
            go_ret2
            rw [← HN2.out]
            exact ⟨rfl, rfl⟩
          · rw [if_neg (by simp)] at HN
            cases over
            · rw [if_neg (by simp)] at HN
              have HN2 : Hid ((x, 0) = ANS) := HN
              clear HN
              go_wp2
              go_ret2
              rw [← HN2.out]
              exact ⟨rfl, rfl⟩
            · rw [if_pos rfl] at HN
              have HN2 : Hid ((0, 11) = ANS) := HN
              clear HN
              go_wp2
              go_ret2
              rw [← HN2.out]
              exact ⟨rfl, rfl⟩
    · obtain ⟨t, rfl⟩ := pfx_yes zs hp
      have hlen : (48 :: 120 :: t).length = t.length + 2 := rfl
      have HS0 : Hid (valGo 16 (t.drop 0) 0 false false = ANS) := hANS
      have HZ : Hid (∀ z ∈ t, z ≤ 1114111) := fun z h => hz z (by simp [h])
      have HC : Hid (∀ i (h : i < t.length), wc.cell? ⟨b, off + 2 + i, none⟩ = some (.int .i64 (t[i] : Nat))) := by
        show ∀ i (h : i < t.length), _
        intro i h
        have := hc (i + 2) (by rw [hlen]; omega)
        have e : off + (i + 2) = off + 2 + i := by omega
        rw [e] at this
        exact this
      have hcap' : t.length + 2 ≤ cap := hcap
      have hsz' : t.length + 2 ≤ 1000000 := hsz
      rw [hlen]
      have hcz : (2 : Int) ≤ (cap : Int) := by omega
      clear hc hz hANS hp hcap hsz hn hlen
      by_cases ht : t = []
      · subst ht
        have HS : Hid ((0, 61) = ANS) := HS0
        clear HS0 HC HZ
        go_wp2
        all_goals
          refine wp_loop_rounds 1 ?_
          rw [rounds_succ]
          go_wp2
          go_ret2
          rw [← HS.out]
          exact ⟨rfl, rfl⟩
      have htl := List.length_pos_iff.2 ht
      have hc2 : ¬ (cap = 2) := by omega
      have HS := HS0
      clear HS0
      go_wp2
      go_loop [5, 6, 7, 8] (fun n o wa i => ∃ (k x : Nat) (was over : Bool), k ≤ t.length ∧ i = .int .i64 k ∧ n = .int .u64 x ∧ x < 18446744073709551616 ∧ o = .bool over ∧ wa = .bool was ∧ Hid (valGo 16 (t.drop k) x was over = ANS)) (fun _ _ _ i => t.length - (RowKit.intOf i).toNat)
      case atStart => exact ⟨0, 0, false, false, by omega, rfl, rfl, by omega, rfl, rfl, HS⟩
      case round =>
        obtain ⟨k, x, was, over, hk, rfl, rfl, hx, rfl, rfl, HV⟩ := hrel
        by_cases hlt : k < t.length
        · have hcell := HC.out k hlt
          have hr := HZ.out _ (List.getElem_mem hlt)
          have HN := HV.out
          rw [List.drop_eq_getElem_cons hlt] at HN
          have hk0 : (0 : Int) ≤ (k : Int) := by omega
          have hk1 : (k : Int) < (t.length : Int) := by omega
          clear HV
          generalize t[k] = r at *
          have cD := rdigit_any r wc
          by_cases hdg : 48 ≤ r ∧ r ≤ 57
          · obtain ⟨d, rfl⟩ : ∃ d, r = 48 + d := ⟨r - 48, by omega⟩
            have hd : digv 16 (48 + d) = some d := by unfold digv; rw [if_pos hdg]; congr 1; omega
            rw [show isDig (48 + d) = true from decide_eq_true hdg] at cD
            have hdz : (48 : Int) + (d : Int) - 48 = (d : Int) := by omega
            clear hdg
            rw [valGo_some 16 _ d (t.drop (k + 1)) x was over hd] at HN
            have hdl := digv_lt 16 _ d hd
            have hm : (x * 16 + d) % 18446744073709551616 < 18446744073709551616 := Nat.mod_lt _ (by omega)
            have HN2 : Hid (valGo 16 (t.drop (k + 1)) ((x * 16 + d) % 18446744073709551616) true (over || decide (18446744073709551616 ≤ x * 16 + d)) = ANS) := HN
            clear HN
            by_cases hbig : 18446744073709551616 ≤ x * 16 + d
            · have htop : ((18446744073709551615 - (d : Int)) / 16) < (x : Int) := by omega
              have hov : (over || decide (18446744073709551616 ≤ x * 16 + d)) = true := by simp [hbig]
              rw [hov] at HN2
              obtain ⟨y, hy⟩ : ∃ y, (x * 16 + d) % 18446744073709551616 = y := ⟨_, rfl⟩
              rw [hy] at HN2 hm
              have hw1 : IntKind.u64.wrap (IntKind.u64.wrap ((x : Int) * 16) + (d : Int)) = (y : Int) := by rw [IntKind.wrap_u64, IntKind.wrap_u64]; omega
              have hw3 : IntKind.u64.wrap ((x : Int) * 16 + (d : Int)) = (y : Int) := by rw [IntKind.wrap_u64]; omega
              clear hbig hov hy
              cases over
              · go_wp2_with (go_at_call 25; refine cD.mono ?_; rintro e w' ⟨rfl, rfl⟩)
                go_round
                case rel => exact ⟨k + 1, y, true, true, by omega, by go_num, by first | rfl | (congr 1; omega) | simp_all, hm, rfl, by first | rfl | (congr 1; exact decide_eq_true (by omega)), HN2⟩
                case measure => simp [RowKit.intOf]; omega
              · go_wp2_with (go_at_call 25; refine cD.mono ?_; rintro e w' ⟨rfl, rfl⟩)
                go_round
                case rel => exact ⟨k + 1, y, true, true, by omega, by go_num, by first | rfl | (congr 1; omega) | simp_all, hm, rfl, by first | rfl | (congr 1; exact decide_eq_true (by omega)), HN2⟩
                case measure => simp [RowKit.intOf]; omega
            · have htop : (x : Int) ≤ ((18446744073709551615 - (d : Int)) / 16) := by omega
              have hov : (over || decide (18446744073709551616 ≤ x * 16 + d)) = over := by simp [hbig]
              have hmm : (x * 16 + d) % 18446744073709551616 = x * 16 + d := Nat.mod_eq_of_lt (by omega)
              rw [hov, hmm] at HN2
              have hlo : x * 16 + d < 18446744073709551616 := by omega
              clear hbig hov hmm hm
              cases over
              · go_wp2_with (go_at_call 25; refine cD.mono ?_; rintro e w' ⟨rfl, rfl⟩)
                go_round
                case rel => exact ⟨k + 1, x * 16 + d, true, false, by omega, by go_num, by first | rfl | (go_num) | (congr 1; omega), hlo, by first | rfl | (simp; omega), by first | rfl | (congr 1; exact decide_eq_true (by omega)), HN2⟩
                case measure => simp [RowKit.intOf]; omega
              · go_wp2_with (go_at_call 25; refine cD.mono ?_; rintro e w' ⟨rfl, rfl⟩)
                go_round
                case rel => exact ⟨k + 1, x * 16 + d, true, true, by omega, by go_num, by first | rfl | (go_num) | (congr 1; omega), hlo, rfl, by first | rfl | (congr 1; exact decide_eq_true (by omega)), HN2⟩
                case measure => simp [RowKit.intOf]; omega
          · by_cases hhx : 97 ≤ r ∧ r ≤ 102
            · obtain ⟨d, rfl⟩ : ∃ d, r = 87 + d := ⟨r - 87, by omega⟩
              have hd : digv 16 (87 + d) = some d := by unfold digv; rw [if_neg hdg, if_pos ⟨rfl, hhx⟩]; congr 1; omega
              rw [show isDig (87 + d) = false from decide_eq_false hdg] at cD
              have hq1 : (97 : Int) ≤ 87 + (d : Int) := by omega
              have hq2 : 87 + (d : Int) ≤ 102 := by omega
              have hdz : (87 : Int) + (d : Int) - 97 + 10 = (d : Int) := by omega
              clear hdg hhx
              rw [valGo_some 16 _ d (t.drop (k + 1)) x was over hd] at HN
              have hdl := digv_lt 16 _ d hd
              have hm : (x * 16 + d) % 18446744073709551616 < 18446744073709551616 := Nat.mod_lt _ (by omega)
              have HN2 : Hid (valGo 16 (t.drop (k + 1)) ((x * 16 + d) % 18446744073709551616) true (over || decide (18446744073709551616 ≤ x * 16 + d)) = ANS) := HN
              clear HN
              by_cases hbig : 18446744073709551616 ≤ x * 16 + d
              · have htop : ((18446744073709551615 - (d : Int)) / 16) < (x : Int) := by omega
                have hov : (over || decide (18446744073709551616 ≤ x * 16 + d)) = true := by simp [hbig]
                rw [hov] at HN2
                obtain ⟨y, hy⟩ : ∃ y, (x * 16 + d) % 18446744073709551616 = y := ⟨_, rfl⟩
                rw [hy] at HN2 hm
                have hw1 : IntKind.u64.wrap (IntKind.u64.wrap ((x : Int) * 16) + (d : Int)) = (y : Int) := by rw [IntKind.wrap_u64, IntKind.wrap_u64]; omega
                have hw3 : IntKind.u64.wrap ((x : Int) * 16 + (d : Int)) = (y : Int) := by rw [IntKind.wrap_u64]; omega
                clear hbig hov hy
                cases over
                · go_wp2_with (go_at_call 25; refine cD.mono ?_; rintro e w' ⟨rfl, rfl⟩)
                  go_round
                  case rel => exact ⟨k + 1, y, true, true, by omega, by go_num, by first | rfl | (congr 1; omega) | simp_all, hm, rfl, by first | rfl | (congr 1; exact decide_eq_true (by omega)), HN2⟩
                  case measure => simp [RowKit.intOf]; omega
                · go_wp2_with (go_at_call 25; refine cD.mono ?_; rintro e w' ⟨rfl, rfl⟩)
                  go_round
                  case rel => exact ⟨k + 1, y, true, true, by omega, by go_num, by first | rfl | (congr 1; omega) | simp_all, hm, rfl, by first | rfl | (congr 1; exact decide_eq_true (by omega)), HN2⟩
                  case measure => simp [RowKit.intOf]; omega
              · have htop : (x : Int) ≤ ((18446744073709551615 - (d : Int)) / 16) := by omega
                have hov : (over || decide (18446744073709551616 ≤ x * 16 + d)) = over := by simp [hbig]
                have hmm : (x * 16 + d) % 18446744073709551616 = x * 16 + d := Nat.mod_eq_of_lt (by omega)
                rw [hov, hmm] at HN2
                have hlo : x * 16 + d < 18446744073709551616 := by omega
                clear hbig hov hmm hm
                cases over
                · go_wp2_with (go_at_call 25; refine cD.mono ?_; rintro e w' ⟨rfl, rfl⟩)
                  go_round
                  case rel => exact ⟨k + 1, x * 16 + d, true, false, by omega, by go_num, by first | rfl | (go_num) | (congr 1; omega), hlo, by first | rfl | (simp; omega), by first | rfl | (congr 1; exact decide_eq_true (by omega)), HN2⟩
                  case measure => simp [RowKit.intOf]; omega
                · go_wp2_with (go_at_call 25; refine cD.mono ?_; rintro e w' ⟨rfl, rfl⟩)
                  go_round
                  case rel => exact ⟨k + 1, x * 16 + d, true, true, by omega, by go_num, by first | rfl | (go_num) | (congr 1; omega), hlo, rfl, by first | rfl | (congr 1; exact decide_eq_true (by omega)), HN2⟩
                  case measure => simp [RowKit.intOf]; omega
            · have hd : digv 16 r = none := by unfold digv; rw [if_neg hdg, if_neg fun h => hhx h.2]
              rw [show isDig r = false from decide_eq_false hdg] at cD
              rw [valGo_none 16 r (t.drop (k + 1)) x was over hd] at HN
              clear hdg hd
              by_cases h97 : 97 ≤ r
              · have h97z : (97 : Int) ≤ (r : Int) := by omega
                have h102 : ¬ ((r : Int) ≤ 102) := by omega
                by_cases hu : r = 95 ∧ was = true
                · obtain ⟨rfl, rfl⟩ := hu
                  rw [if_pos ⟨rfl, rfl⟩] at HN
                  have HN2 : Hid (valGo 16 (t.drop (k + 1)) x false over = ANS) := HN
                  clear HN
                  go_wp2_with (go_at_call 25; refine cD.mono ?_; rintro e w' ⟨rfl, rfl⟩)
                  go_round
                  case rel => exact ⟨k + 1, x, false, over, by omega, by go_num, rfl, hx, rfl, rfl, HN2⟩
                  case measure => simp [RowKit.intOf]; omega
                · rw [if_neg hu] at HN
                  have HN2 : Hid ((0, 61) = ANS) := HN
                  clear HN
                  by_cases h95 : r = 95
                  · have hwf : was = false := by cases was; rfl; exact absurd ⟨h95, rfl⟩ hu
                    subst h95 hwf
                    clear hu
                    go_wp2_with (go_at_call 25; refine cD.mono ?_; rintro e w' ⟨rfl, rfl⟩)
                    go_ret2
                    rw [← HN2.out]
                    exact ⟨rfl, rfl⟩
                  · have h95z : ((r : Int) != 95) = true := by simp; omega
                    have h95y : ¬ ((r : Int) = 95) := by omega
                    clear hu
                    go_wp2_with (go_at_call 25; refine cD.mono ?_; rintro e w' ⟨rfl, rfl⟩)
                    all_goals
                      go_ret2
                      rw [← HN2.out]
                      exact ⟨rfl, rfl⟩
              · have h97z : ¬ ((97 : Int) ≤ (r : Int)) := by omega
                by_cases hu : r = 95 ∧ was = true
                · obtain ⟨rfl, rfl⟩ := hu
                  rw [if_pos ⟨rfl, rfl⟩] at HN
                  have HN2 : Hid (valGo 16 (t.drop (k + 1)) x false over = ANS) := HN
                  clear HN
                  go_wp2_with (go_at_call 25; refine cD.mono ?_; rintro e w' ⟨rfl, rfl⟩)
                  go_round
                  case rel => exact ⟨k + 1, x, false, over, by omega, by go_num, rfl, hx, rfl, rfl, HN2⟩
                  case measure => simp [RowKit.intOf]; omega
                · rw [if_neg hu] at HN
                  have HN2 : Hid ((0, 61) = ANS) := HN
                  clear HN
                  by_cases h95 : r = 95
                  · have hwf : was = false := by cases was; rfl; exact absurd ⟨h95, rfl⟩ hu
                    subst h95 hwf
                    clear hu
                    go_wp2_with (go_at_call 25; refine cD.mono ?_; rintro e w' ⟨rfl, rfl⟩)
                    go_ret2
                    rw [← HN2.out]
                    exact ⟨rfl, rfl⟩
                  · have h95z : ((r : Int) != 95) = true := by simp; omega
                    have h95y : ¬ ((r : Int) = 95) := by omega
                    clear hu
                    go_wp2_with (go_at_call 25; refine cD.mono ?_; rintro e w' ⟨rfl, rfl⟩)
                    all_goals
                      go_ret2
                      rw [← HN2.out]
                      exact ⟨rfl, rfl⟩
        · have ek : k = t.length := by omega
          have HN := HV.out
          rw [ek, List.drop_length, valGo_nil] at HN
          have hkz : ¬ (k : Int) < (t.length : Int) := by omega
          clear HV
          cases was
          · rw [if_pos rfl] at HN
            have HN2 : Hid ((0, 61) = ANS) := HN
            clear HN
            go_wp2
            go_ret2
            rw [← HN2.out]
            exact ⟨rfl, rfl⟩
          · rw [if_neg (by simp)] at HN
            cases over
            · rw [if_neg (by simp)] at HN
              have HN2 : Hid ((x, 0) = ANS) := HN
              clear HN
              go_wp2
              go_ret2
              rw [← HN2.out]
              exact ⟨rfl, rfl⟩
            · rw [if_pos rfl] at HN
              have HN2 : Hid ((0, 11) = ANS) := HN
              clear HN
              go_wp2
              go_ret2
              rw [← HN2.out]
              exact ⟨rfl, rfl⟩
end Go.Proofs.YtbpahdgkedfmdaaDoor
