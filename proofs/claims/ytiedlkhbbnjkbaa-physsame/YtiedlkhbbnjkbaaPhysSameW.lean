/- PhysSame: two memories are the same just if all words are. -/
import Derived.Test.YtiedlkhbbnjkbaaPhysTwo
namespace Go.Proofs.Ytiedlkhbbnjkbaa.physSame
open Go.RowKit Go.Maps

set_option maxRecDepth 100000 in
set_option maxHeartbeats 4000000 in
theorem walk (ad : Option Addr) (n cap : Nat) (K : Nat → Int) (A V : Nat → Nat) (x v : Nat) (hn : n ≤ maxLen) (hx : x < 18446744073709551616) (hv : v < 18446744073709551616) (w : World) (ho : OpsAt w ad n K A V) :
    Calls Try.prog 4 #[.slice ad n cap, .int .u64 x, .int .u64 v] w fun e w' => e = .returned (.bool true) ∧ Below w.heap.size w w' := by
  have hn' : n < 9223372036854775808 := by unfold maxLen at hn; omega
  have HO := Hid.mk ho
  clear ho hn
  go_enter Try.func4, Try.ntmps4
  go_wp2_with fail
  refine (anchor_c w).mono ?_
  rintro e w1 ⟨rfl, hb1⟩
  have HB1 := Hid.mk hb1
  clear hb1
  by_cases h60 : 60 < n
  · go_wp2
    go_ret
    exact ⟨rfl, HB1.out⟩
  · go_wp2_with fail
    refine (new_ok 1048576 (by decide) w1).mono ?_
    rintro e w2 ⟨a, rfl, hm, hb2⟩
    have HF0 : Hid (Fresh w w2 a 1048576 0 (fW 1048576 A V 0)) := Fresh.of_new HB1.out hm hb2
    clear hm hb2
    go_wp2_with fail
    refine (new_ok 2097152 (by decide) w2).mono ?_
    rintro e w3 ⟨b, rfl, hm, hb3⟩
    have HT0 : Hid (Two w w3 a 1048576 0 (fW 1048576 A V 0) b 2097152 0 (fun _ => 0)) := Two.of_new HF0.out hm hb3
    clear hm hb3 HF0
    go_wp2
    go_loopw [38] (fun i wr => ∃ k : Nat, k ≤ n ∧ i = .int .i64 k ∧ Two w wr a 1048576 k (fW 1048576 A V k) b 2097152 0 (fun _ => 0)) (fun i _ => n - (intOf i).toNat)
    case atStart => exact ⟨0, by omega, rfl, HT0.out⟩
    case round =>
      clear HT0
      obtain ⟨k, hk, rfl, hR⟩ := hrel
      have HR := Hid.mk hR
      clear hR
      by_cases hlt : k < n
      · obtain ⟨g, o, rfl, hg, q1, q2, q3⟩ := (HO.out.later HR.out.bel).cells k hlt
        have ha := HO.out.al k
        have hvv := HO.out.vl k
        have hw := (HR.out.later ((Below.refl _ wr).alloc (Nat.le_refl _) (.cells #[.int .i64 (K k), .int .u64 (A k : Nat), .int .u64 (V k : Nat)] 34))).write (by omega) (A k) (V k) ha hvv
        generalize hAk : A k = Ak at *
        generalize hVk : V k = Vk at *
        have HA := Hid.mk hAk
        have HV := Hid.mk hVk
        clear hAk hVk
        go_wp2_with fail
        refine hw.mono ?_
        rintro e w3 ⟨rfl, hf⟩
        have HF := Hid.mk hf
        clear hf hw q1 q2 q3
        go_wp2
        refine ⟨⟨k + 1, by omega, by go_num, ?_⟩, by simp [intOf]; omega⟩
        rw [fW_succ, HA.out, HV.out]
        exact HF.out
      · obtain rfl : k = n := by omega
        generalize fW 1048576 A V k = f at *
        obtain ⟨⟨X, Z, hmX, hmZ, hXZ, hX, hZ⟩, hB⟩ := HR.out
        have HZ := Hid.mk hmZ
        have hcp := copy_c hmX (by omega)
        clear hmX hmZ hXZ hX hZ hB
        go_wp2_with fail
        refine hcp.mono ?_
        rintro e w4 ⟨c, rfl, hmc, hb4⟩
        have HT : Hid (Two w w4 a 1048576 k f c 1048576 k f) := Two.of_new HR.out.one hmc hb4
        have HZ4 : Hid (MemAt w4 Z b 2097152 0 (fun _ => 0)) := HZ.out.below hb4
        have hs1 := HT.out.same
        clear hcp hmc hb4 HZ
        go_wp2_with fail
        refine hs1.mono ?_
        rintro e w5 ⟨⟨q, rfl, hq⟩, hb5⟩
        obtain rfl : q = true := hq.2 (by simp)
        have HT5 : Hid (Two w w5 a 1048576 k f c 1048576 k f) := HT.out.later hb5
        have HZ5 : Hid (MemAt w5 Z b 2097152 0 (fun _ => 0)) := HZ4.out.below hb5
        have hs2 := HT5.out.swap.same
        clear hs1 hq hb5 HT HZ4
        go_wp2_with fail
        refine hs2.mono ?_
        rintro e w6 ⟨⟨q, rfl, hq⟩, hb6⟩
        obtain rfl : q = true := hq.2 (by simp)
        have HT6 : Hid (Two w w6 a 1048576 k f c 1048576 k f) := HT5.out.later hb6
        have HZ6 : Hid (MemAt w6 Z b 2097152 0 (fun _ => 0)) := HZ5.out.below hb6
        obtain ⟨⟨X6, hm6, _⟩, _⟩ := HT6.out.one
        have hs3 := same_c hm6 HZ6.out
        clear hs2 hq hb6 HT5 HZ5 hm6
        go_wp2_with fail
        refine hs3.mono ?_
        rintro e w7 ⟨⟨q, rfl, hq⟩, hb7⟩
        obtain rfl : q = false := by
          cases q with
          | false => rfl
          | true => exact absurd (hq.1 rfl).1 (by decide)
        have HT7 : Hid (Two w w7 a 1048576 k f c 1048576 k f) := HT6.out.later hb7
        have hrd := HT7.out.swap.read x hx
        clear hs3 hq hb7 HT6 HZ6
        go_wp2_with fail
        refine hrd.mono ?_
        rintro e w8 ⟨rfl, hT8, _⟩
        have hwr := hT8.write (by omega) x v hx hv
        have HI : Hid (f = wrF f 1048576 x v ↔ (errA 1048576 x ≠ 0 ∨ f x = v)) := wrF_same
        clear hrd hT8 HT7
        go_wp2_with fail
        refine hwr.mono ?_
        rintro e w9 ⟨rfl, hT9⟩
        have HT9 := Hid.mk hT9
        clear hwr hT9
        have hs4 := HT9.out.swap.same
        go_wp2_with fail
        refine hs4.mono ?_
        rintro e w10 ⟨⟨q, rfl, hq⟩, hb10⟩
        have HQ1 : Hid (q = true ↔ (errA 1048576 x ≠ 0 ∨ f x = v)) := by
          show _ ↔ _
          rw [hq]; simp only [true_and]; exact HI.out
        have HT10 := Hid.mk (HT9.out.later hb10)
        have hs5 := HT10.out.same
        clear hs4 hq hb10 HT9
        have fin : ∀ p : Bool, (p = true ↔ (errA 1048576 x ≠ 0 ∨ f x = v)) → p = q := fun p hp => by
          rw [Bool.eq_iff_iff, hp]; exact HQ1.out.symm
        have HFin := Hid.mk fin
        have HQe : Hid (q = (decide (errA 1048576 x ≠ 0) || decide (f x = v))) := by
          show q = _
          rw [Bool.eq_iff_iff, HQ1.out]
          simp
        clear fin HQ1
        generalize wrF f 1048576 x v = f2 at *
        generalize f x = z at *
        generalize errA 1048576 x = E at *
        have H5 : Hid (∀ p : Bool, (p = true ↔ f2 = f) → p = q) := fun p hp => HFin.out p (hp.trans (by rw [eq_comm]; exact HI.out))
        have H6 : Hid (∀ p : Bool, (p = true ↔ f = f2) → p = q) := fun p hp => HFin.out p (hp.trans HI.out)
        clear HFin HI
        have rest : ∀ w11, Below w10.heap.size w10 w11 → Calls Try.prog 19 #[.pointer (some ⟨a, 0, none⟩), .pointer (some ⟨c, 0, none⟩)] w11 fun e w' => e = .returned (.bool q) ∧ Below w.heap.size w w' := fun w11 hb11 => by
          refine ((HT10.out.later hb11).swap.same).mono ?_
          rintro e w12 ⟨⟨p, rfl, hp⟩, hb12⟩
          exact ⟨by rw [H6.out p (hp.trans (by simp))], below_tr (HT10.out.later hb11).bel hb12⟩
        have HRest := Hid.mk rest
        have H5c : Hid (Calls Try.prog 19 #[.pointer (some ⟨c, 0, none⟩), .pointer (some ⟨a, 0, none⟩)] w10 fun e w' => e = .returned (.bool q) ∧ Below w10.heap.size w10 w') := by
          refine hs5.mono ?_
          rintro e w12 ⟨⟨p, rfl, hp⟩, hb12⟩
          exact ⟨by rw [H5.out p (hp.trans (by simp))], hb12⟩
        clear rest hs5 H5 H6
        by_cases x1 : E = 0
        · subst x1
          by_cases x2 : z = v
          · subst x2
            obtain rfl : q = true := by rw [HQe.out]; simp
            go_wp2_with fail
            refine H5c.out.mono ?_
            rintro e w11 ⟨rfl, hb11⟩
            have h6 := HRest.out w11 hb11
            clear hb11
            go_wp2_with fail
            refine h6.mono ?_
            rintro e w12 ⟨rfl, hb12⟩
            have HB := Hid.mk hb12
            clear hb12 h6
            go_wp2
            go_ret
            exact ⟨rfl, HB.out⟩
          · have x2b : ((z : Int) == v) = false := by simp; omega
            obtain rfl : q = false := by rw [HQe.out]; simp [x2]
            go_wp2_with fail
            refine H5c.out.mono ?_
            rintro e w11 ⟨rfl, hb11⟩
            have h6 := HRest.out w11 hb11
            clear hb11
            go_wp2_with fail
            refine h6.mono ?_
            rintro e w12 ⟨rfl, hb12⟩
            have HB := Hid.mk hb12
            clear hb12 h6
            go_wp2
            go_ret
            exact ⟨rfl, HB.out⟩
        · have x1b : (E == 0) = false := by simp [x1]
          obtain rfl : q = true := by rw [HQe.out]; simp [x1]
          go_wp2_with fail
          refine H5c.out.mono ?_
          rintro e w11 ⟨rfl, hb11⟩
          have h6 := HRest.out w11 hb11
          clear hb11
          go_wp2_with fail
          refine h6.mono ?_
          rintro e w12 ⟨rfl, hb12⟩
          have HB := Hid.mk hb12
          clear hb12 h6
          go_wp2
          go_ret
          exact ⟨rfl, HB.out⟩
end Go.Proofs.Ytiedlkhbbnjkbaa.physSame
