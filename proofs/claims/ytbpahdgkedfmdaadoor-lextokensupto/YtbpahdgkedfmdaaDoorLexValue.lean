/- The walk of lex.Value: any text is the number that its characters say. -/
import Derived.Test.YtbpahdgkedfmdaaDoorLexWalksA
import Derived.Laws.Bits64b
namespace Go.Proofs.YtbpahdgkedfmdaaDoor
open Go.RowKit Go.Lib

set_option maxHeartbeats 8000000 in
set_option maxRecDepth 100000 in
theorem value_any (s : ByteArray) (w : World) :
    Calls Tryd.prog 13 #[.string s] w fun e w' => e = .returned (.tuple #[.int .u64 (valW ((chs s.data.toList).map (·.1))), .int .i64 (valE ((chs s.data.toList).map (·.1)))]) ∧ Below w.heap.size w w' := by
  unfold valW valE
  have cP := (Tryd.strings_CutPrefix s ⟨#[48, 120]⟩ w).mono fun _ _ h => And.intro h.1 h.2.symm
  have e48 : (⟨#[48, 120]⟩ : ByteArray).data.toList = [48, 120] := rfl
  rw [e48] at cP
  clear e48
  cases hpre : hasPrefix s.data.toList [48, 120]
  · have hS := valS_nopre s.data.toList hpre
    have ht : trimPrefix s.data.toList [48, 120] = s.data.toList := by unfold trimPrefix; rw [hpre]; rfl
    rw [ht] at hS
    rw [hpre] at cP
    clear hpre ht
    generalize hANS : valS ((chs s.data.toList).map (·.1)) = ANS at *
    clear hANS
    go_enter Tryd.func13, Tryd.ntmps13
    go_wp2_with (go_at_call 28; refine cP.mono ?_; rintro e w' ⟨rfl, rfl⟩)
    have hS0 : Hid (valAt 10 s 0 0 false false = ANS) := hS.symm
    clear hS cP
    go_loopw [8, 9, 10] (fun a b c wr => ∃ (pos x : Nat) (was over : Bool), a = .int .u64 x ∧ x < 18446744073709551616 ∧ b = .bool was ∧ c = .bool over ∧ wr = w.iter s pos ∧ Hid (valAt 10 s pos x was over = ANS)) (fun _ _ _ wr => s.size - wr.iterPos w.heap.size)
    case atStart => exact ⟨0, 0, false, false, rfl, by omega, rfl, rfl, rfl, hS0⟩
    case round =>
      obtain ⟨pos, x, was, over, rfl, hx, rfl, rfl, rfl, HV⟩ := hrel
      by_cases hp : pos < s.size
      · have hnx : ∀ ty, (Instr.next (.pointer (some ⟨w.heap.size, 0, none⟩)) true ty).run Tryd.prog (w.iter s pos) = _ := fun ty => run_next_any w s pos ty hp
        have hwd := Lib.decode_width_pos s pos hp
        have hr : (Utf8.decode s pos).1 ≤ 1114111 := rune_le s pos
        have HN := HV.out
        clear HV
        have HD : Hid (digB 10 (Utf8.decode s pos).1 = true → valAt 10 s (pos + (Utf8.decode s pos).2) ((x * 10 + digV 10 (Utf8.decode s pos).1) % 18446744073709551616) true (over || decide (18446744073709551616 ≤ x * 10 + digV 10 (Utf8.decode s pos).1)) = ANS) := fun h => (valAt_dig 10 s pos x was over hp h).symm.trans HN
        have HE : Hid (digB 10 (Utf8.decode s pos).1 = false → (if (Utf8.decode s pos).1 = 95 ∧ was = true then valAt 10 s (pos + (Utf8.decode s pos).2) x false over else (0, 61)) = ANS) := fun h => (valAt_none 10 s pos x was over hp h).symm.trans HN
        have hdl := digV_lt 10 (Utf8.decode s pos).1
        clear HN
        generalize (Utf8.decode s pos).1 = r at *
        generalize (Utf8.decode s pos).2 = k at *
        have cD : ∀ w1, Calls Tryd.prog 29 #[.int .i32 r, .int .u64 10] w1 fun e w' => e = .returned (.tuple #[.int .u64 (digV 10 r), .bool (digB 10 r)]) ∧ w' = w1 := fun w1 => digitOf_any r 10 w1 hr (by omega)
        generalize hdv : digV 10 r = d at *
        by_cases h95 : r = 95
        · subst h95
          have HF := HE.out (digB_95 10)
          clear HE HD
          cases was
          · rw [if_neg (by simp)] at HF
            have HG : Hid ((0, 61) = ANS) := HF
            clear HF
            rw [digB_95] at cD
            go_wp2_with (go_at_call 29; refine (cD _).mono ?_; rintro e w' ⟨rfl, rfl⟩)
            go_ret2
            rw [← HG.out]
            exact ⟨rfl, (Below.refl _ _).alloc (Nat.le_refl _) _⟩
          · rw [if_pos (by simp)] at HF
            have HG : Hid (valAt 10 s (pos + k) x false over = ANS) := HF
            clear HF cD
            go_wp2
            go_roundw
            case rel => exact ⟨pos + k, x, false, over, rfl, hx, rfl, rfl, rfl, HG⟩
            case measure => simp; omega
        · cases hb : digB 10 r
          · have HF := HE.out hb
            rw [if_neg (fun h => h95 h.1)] at HF
            have HG : Hid ((0, 61) = ANS) := HF
            clear HF HE HD
            rw [hb] at cD
            clear hb
            go_wp2_with (go_at_call 29; refine (cD _).mono ?_; rintro e w' ⟨rfl, rfl⟩)
            go_ret2
            rw [← HG.out]
            exact ⟨rfl, (Below.refl _ _).alloc (Nat.le_refl _) _⟩
          · have HG : Hid (valAt 10 s (pos + k) ((x * 10 + d) % 18446744073709551616) true (over || decide (18446744073709551616 ≤ x * 10 + d)) = ANS) := HD.out hb
            clear HE HD
            rw [hb] at cD
            clear hb
            have HO := over_iff x 10 d
            have HS := sum_eq x 10 d
            have cM : ∀ w1, Calls Tryd.prog 30 #[.int .u64 x, .int .u64 10] w1 fun e w' => e = .returned (.tuple #[.int .u64 ((x * 10 / 18446744073709551616 : Nat) : Int), .int .u64 ((x * 10 % 18446744073709551616 : Nat) : Int)]) ∧ w' = w1 := fun w1 => Tryd.bits_Mul64 x 10 hx (by omega) w1
            have hb1 : x * 10 / 18446744073709551616 < 18446744073709551616 := by omega
            have hb2 : x * 10 % 18446744073709551616 < 18446744073709551616 := by omega
            have hs1 : (x * 10 + d) % 18446744073709551616 < 18446744073709551616 := Nat.mod_lt _ (by omega)
            have hov : ((over || decide (18446744073709551616 ≤ x * 10 + d)) = true) ↔ (over = true ∨ 18446744073709551616 ≤ x * 10 + d) := by simp
            generalize x * 10 / 18446744073709551616 = hi at *
            generalize x * 10 % 18446744073709551616 = lo at *
            have cA : ∀ w1, (callFunc 31 #[.int .u64 lo, .int .u64 d, .int .u64 0]).run Tryd.prog w1 = .ok (.value (.tuple #[.int .u64 (((lo + d) % 18446744073709551616 : Nat) : Int), .int .u64 (((lo + d) / 18446744073709551616 : Nat) : Int)])) w1 := fun w1 => Tryd.bits_Add64 lo d 0 (by omega) w1
            have hb3 : (lo + d) / 18446744073709551616 < 18446744073709551616 := by omega
            rw [HS] at cA
            clear HS
            generalize (x * 10 + d) % 18446744073709551616 = sm at *
            generalize (lo + d) / 18446744073709551616 = cy at *
            have hor := bits_or_u64_nat hi cy hb1 hb3
            generalize hi ||| cy = m at *
            generalize (over || decide (18446744073709551616 ≤ x * 10 + d)) = ov' at *
            generalize (18446744073709551616 ≤ x * 10 + d) = big at *
            cases over
            · by_cases hm : m = 0
              · subst hm
                have ho : ov' = false := by
                  cases ov'
                  · rfl
                  · exact absurd ((hov.1 rfl).resolve_left (by simp)) (HO.1 rfl)
                subst ho
                clear hov HO
                go_wp2_with (first | (go_at_call 29; refine (cD _).mono ?_; rintro e w' ⟨rfl, rfl⟩) | (go_at_call 30; refine (cM _).mono ?_; rintro e w' ⟨rfl, rfl⟩))
                go_roundw
                case rel => exact ⟨pos + k, sm, true, false, rfl, hs1, rfl, rfl, rfl, HG⟩
                case measure => simp; omega
              · have ho : ov' = true := hov.2 (.inr (Classical.byContradiction fun hb => hm (HO.2 hb)))
                subst ho
                clear hov HO
                go_wp2_with (first | (go_at_call 29; refine (cD _).mono ?_; rintro e w' ⟨rfl, rfl⟩) | (go_at_call 30; refine (cM _).mono ?_; rintro e w' ⟨rfl, rfl⟩))
                go_roundw
                case rel => exact ⟨pos + k, sm, true, true, rfl, hs1, rfl, by simp [hm], rfl, HG⟩
                case measure => simp; omega
            · have ho : ov' = true := hov.2 (.inl rfl)
              subst ho
              clear hov HO
              go_wp2_with (first | (go_at_call 29; refine (cD _).mono ?_; rintro e w' ⟨rfl, rfl⟩) | (go_at_call 30; refine (cM _).mono ?_; rintro e w' ⟨rfl, rfl⟩))
              go_roundw
              case rel => exact ⟨pos + k, sm, true, true, rfl, hs1, rfl, rfl, rfl, HG⟩
              case measure => simp; omega
      · have hnx : ∀ ty, (Instr.next (.pointer (some ⟨w.heap.size, 0, none⟩)) true ty).run Tryd.prog (w.iter s pos) = _ := fun ty => run_next_end w s pos ty hp
        have HN := HV.out
        clear HV
        rw [valAt_end 10 s pos x was over hp] at HN
        cases was
        · rw [if_pos rfl] at HN
          have HG : Hid ((0, 61) = ANS) := HN
          clear HN
          go_wp2
          go_ret2
          rw [← HG.out]
          exact ⟨rfl, (Below.refl _ _).alloc (Nat.le_refl _) _⟩
        · rw [if_neg (by simp)] at HN
          cases over
          · rw [if_neg (by simp)] at HN
            have HG : Hid ((x, 0) = ANS) := HN
            clear HN
            go_wp2
            go_ret2
            rw [← HG.out]
            exact ⟨rfl, (Below.refl _ _).alloc (Nat.le_refl _) _⟩
          · rw [if_pos rfl] at HN
            have HG : Hid ((0, 11) = ANS) := HN
            clear HN
            go_wp2
            go_ret2
            rw [← HG.out]
            exact ⟨rfl, (Below.refl _ _).alloc (Nat.le_refl _) _⟩
  · have hS := valS_pre s.data.toList hpre
    rw [hpre] at cP
    clear hpre
    generalize hANS : valS ((chs s.data.toList).map (·.1)) = ANS at *
    clear hANS
    generalize trimPrefix s.data.toList [48, 120] = dl at *
    generalize hDD : (⟨dl.toArray⟩ : ByteArray) = D at *
    have hD : dl = D.data.toList := by subst hDD; simp
    subst hD
    clear hDD
    go_enter Tryd.func13, Tryd.ntmps13
    go_wp2_with (go_at_call 28; refine cP.mono ?_; rintro e w' ⟨rfl, rfl⟩)
    have hS0 : Hid (valAt 16 D 0 0 false false = ANS) := hS.symm
    clear hS cP
    go_loopw [8, 9, 10] (fun a b c wr => ∃ (pos x : Nat) (was over : Bool), a = .int .u64 x ∧ x < 18446744073709551616 ∧ b = .bool was ∧ c = .bool over ∧ wr = w.iter D pos ∧ Hid (valAt 16 D pos x was over = ANS)) (fun _ _ _ wr => D.size - wr.iterPos w.heap.size)
    case atStart => exact ⟨0, 0, false, false, rfl, by omega, rfl, rfl, rfl, hS0⟩
    case round =>
      obtain ⟨pos, x, was, over, rfl, hx, rfl, rfl, rfl, HV⟩ := hrel
      by_cases hp : pos < D.size
      · have hnx : ∀ ty, (Instr.next (.pointer (some ⟨w.heap.size, 0, none⟩)) true ty).run Tryd.prog (w.iter D pos) = _ := fun ty => run_next_any w D pos ty hp
        have hwd := Lib.decode_width_pos D pos hp
        have hr : (Utf8.decode D pos).1 ≤ 1114111 := rune_le D pos
        have HN := HV.out
        clear HV
        have HD : Hid (digB 16 (Utf8.decode D pos).1 = true → valAt 16 D (pos + (Utf8.decode D pos).2) ((x * 16 + digV 16 (Utf8.decode D pos).1) % 18446744073709551616) true (over || decide (18446744073709551616 ≤ x * 16 + digV 16 (Utf8.decode D pos).1)) = ANS) := fun h => (valAt_dig 16 D pos x was over hp h).symm.trans HN
        have HE : Hid (digB 16 (Utf8.decode D pos).1 = false → (if (Utf8.decode D pos).1 = 95 ∧ was = true then valAt 16 D (pos + (Utf8.decode D pos).2) x false over else (0, 61)) = ANS) := fun h => (valAt_none 16 D pos x was over hp h).symm.trans HN
        have hdl := digV_lt 16 (Utf8.decode D pos).1
        clear HN
        generalize (Utf8.decode D pos).1 = r at *
        generalize (Utf8.decode D pos).2 = k at *
        have cD : ∀ w1, Calls Tryd.prog 29 #[.int .i32 r, .int .u64 16] w1 fun e w' => e = .returned (.tuple #[.int .u64 (digV 16 r), .bool (digB 16 r)]) ∧ w' = w1 := fun w1 => digitOf_any r 16 w1 hr (by omega)
        generalize hdv : digV 16 r = d at *
        by_cases h95 : r = 95
        · subst h95
          have HF := HE.out (digB_95 16)
          clear HE HD
          cases was
          · rw [if_neg (by simp)] at HF
            have HG : Hid ((0, 61) = ANS) := HF
            clear HF
            rw [digB_95] at cD
            go_wp2_with (go_at_call 29; refine (cD _).mono ?_; rintro e w' ⟨rfl, rfl⟩)
            go_ret2
            rw [← HG.out]
            exact ⟨rfl, (Below.refl _ _).alloc (Nat.le_refl _) _⟩
          · rw [if_pos (by simp)] at HF
            have HG : Hid (valAt 16 D (pos + k) x false over = ANS) := HF
            clear HF cD
            go_wp2
            go_roundw
            case rel => exact ⟨pos + k, x, false, over, rfl, hx, rfl, rfl, rfl, HG⟩
            case measure => simp; omega
        · cases hb : digB 16 r
          · have HF := HE.out hb
            rw [if_neg (fun h => h95 h.1)] at HF
            have HG : Hid ((0, 61) = ANS) := HF
            clear HF HE HD
            rw [hb] at cD
            clear hb
            go_wp2_with (go_at_call 29; refine (cD _).mono ?_; rintro e w' ⟨rfl, rfl⟩)
            go_ret2
            rw [← HG.out]
            exact ⟨rfl, (Below.refl _ _).alloc (Nat.le_refl _) _⟩
          · have HG : Hid (valAt 16 D (pos + k) ((x * 16 + d) % 18446744073709551616) true (over || decide (18446744073709551616 ≤ x * 16 + d)) = ANS) := HD.out hb
            clear HE HD
            rw [hb] at cD
            clear hb
            have HO := over_iff x 16 d
            have HS := sum_eq x 16 d
            have cM : ∀ w1, Calls Tryd.prog 30 #[.int .u64 x, .int .u64 16] w1 fun e w' => e = .returned (.tuple #[.int .u64 ((x * 16 / 18446744073709551616 : Nat) : Int), .int .u64 ((x * 16 % 18446744073709551616 : Nat) : Int)]) ∧ w' = w1 := fun w1 => Tryd.bits_Mul64 x 16 hx (by omega) w1
            have hb1 : x * 16 / 18446744073709551616 < 18446744073709551616 := by omega
            have hb2 : x * 16 % 18446744073709551616 < 18446744073709551616 := by omega
            have hs1 : (x * 16 + d) % 18446744073709551616 < 18446744073709551616 := Nat.mod_lt _ (by omega)
            have hov : ((over || decide (18446744073709551616 ≤ x * 16 + d)) = true) ↔ (over = true ∨ 18446744073709551616 ≤ x * 16 + d) := by simp
            generalize x * 16 / 18446744073709551616 = hi at *
            generalize x * 16 % 18446744073709551616 = lo at *
            have cA : ∀ w1, (callFunc 31 #[.int .u64 lo, .int .u64 d, .int .u64 0]).run Tryd.prog w1 = .ok (.value (.tuple #[.int .u64 (((lo + d) % 18446744073709551616 : Nat) : Int), .int .u64 (((lo + d) / 18446744073709551616 : Nat) : Int)])) w1 := fun w1 => Tryd.bits_Add64 lo d 0 (by omega) w1
            have hb3 : (lo + d) / 18446744073709551616 < 18446744073709551616 := by omega
            rw [HS] at cA
            clear HS
            generalize (x * 16 + d) % 18446744073709551616 = sm at *
            generalize (lo + d) / 18446744073709551616 = cy at *
            have hor := bits_or_u64_nat hi cy hb1 hb3
            generalize hi ||| cy = m at *
            generalize (over || decide (18446744073709551616 ≤ x * 16 + d)) = ov' at *
            generalize (18446744073709551616 ≤ x * 16 + d) = big at *
            cases over
            · by_cases hm : m = 0
              · subst hm
                have ho : ov' = false := by
                  cases ov'
                  · rfl
                  · exact absurd ((hov.1 rfl).resolve_left (by simp)) (HO.1 rfl)
                subst ho
                clear hov HO
                go_wp2_with (first | (go_at_call 29; refine (cD _).mono ?_; rintro e w' ⟨rfl, rfl⟩) | (go_at_call 30; refine (cM _).mono ?_; rintro e w' ⟨rfl, rfl⟩))
                go_roundw
                case rel => exact ⟨pos + k, sm, true, false, rfl, hs1, rfl, rfl, rfl, HG⟩
                case measure => simp; omega
              · have ho : ov' = true := hov.2 (.inr (Classical.byContradiction fun hb => hm (HO.2 hb)))
                subst ho
                clear hov HO
                go_wp2_with (first | (go_at_call 29; refine (cD _).mono ?_; rintro e w' ⟨rfl, rfl⟩) | (go_at_call 30; refine (cM _).mono ?_; rintro e w' ⟨rfl, rfl⟩))
                go_roundw
                case rel => exact ⟨pos + k, sm, true, true, rfl, hs1, rfl, by simp [hm], rfl, HG⟩
                case measure => simp; omega
            · have ho : ov' = true := hov.2 (.inl rfl)
              subst ho
              clear hov HO
              go_wp2_with (first | (go_at_call 29; refine (cD _).mono ?_; rintro e w' ⟨rfl, rfl⟩) | (go_at_call 30; refine (cM _).mono ?_; rintro e w' ⟨rfl, rfl⟩))
              go_roundw
              case rel => exact ⟨pos + k, sm, true, true, rfl, hs1, rfl, rfl, rfl, HG⟩
              case measure => simp; omega
      · have hnx : ∀ ty, (Instr.next (.pointer (some ⟨w.heap.size, 0, none⟩)) true ty).run Tryd.prog (w.iter D pos) = _ := fun ty => run_next_end w D pos ty hp
        have HN := HV.out
        clear HV
        rw [valAt_end 16 D pos x was over hp] at HN
        cases was
        · rw [if_pos rfl] at HN
          have HG : Hid ((0, 61) = ANS) := HN
          clear HN
          go_wp2
          go_ret2
          rw [← HG.out]
          exact ⟨rfl, (Below.refl _ _).alloc (Nat.le_refl _) _⟩
        · rw [if_neg (by simp)] at HN
          cases over
          · rw [if_neg (by simp)] at HN
            have HG : Hid ((x, 0) = ANS) := HN
            clear HN
            go_wp2
            go_ret2
            rw [← HG.out]
            exact ⟨rfl, (Below.refl _ _).alloc (Nat.le_refl _) _⟩
          · rw [if_pos rfl] at HN
            have HG : Hid ((0, 11) = ANS) := HN
            clear HN
            go_wp2
            go_ret2
            rw [← HG.out]
            exact ⟨rfl, (Below.refl _ _).alloc (Nat.le_refl _) _⟩
end Go.Proofs.YtbpahdgkedfmdaaDoor
