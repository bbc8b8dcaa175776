/- PhysFinds: a word is found at the first address, from one on, at which it stands. -/
import Derived.Test.YtiedlkhbbnjkbaaPhysLaw
import Derived.Test.YtiedlkhbbnjkbaaPhysFind0
namespace Go.Proofs.Ytiedlkhbbnjkbaa.physFinds
open Go.RowKit Go.Maps

/-- What the second loop has found. -/
structure Best (S : Nat) (f : Nat → Nat) (A : Nat → Nat) (fr v k best : Nat) (there : Bool) : Prop where
  no : there = false → best = 0
  yes : there = true → v ≠ 0 ∧ fr ≤ best ∧ f best = v
  all : ∀ j, j < k → errA S (A j) = 0 → f (A j) = v → v ≠ 0 → fr ≤ A j → there = true ∧ best ≤ A j

theorem Best.skip {S j best : Nat} {f : Nat → Nat} {A : Nat → Nat} {fr v : Nat} {there : Bool} (hB : Best S f A fr v j best there) (hn : ¬ (errA S (A j) = 0 ∧ f (A j) = v ∧ v ≠ 0 ∧ fr ≤ A j ∧ (there = false ∨ A j < best))) : Best S f A fr v (j + 1) best there := by
  refine ⟨hB.no, hB.yes, fun i hi h1 h2 h3 h4 => ?_⟩
  by_cases e : i = j
  · subst e
    cases ht : there with
    | false => exact absurd ⟨h1, h2, h3, h4, Or.inl ht⟩ hn
    | true =>
      refine ⟨rfl, ?_⟩
      by_cases c : A i < best
      · exact absurd ⟨h1, h2, h3, h4, Or.inr c⟩ hn
      · omega
  · exact hB.all i (by omega) h1 h2 h3 h4

theorem Best.take {S j best : Nat} {f : Nat → Nat} {A : Nat → Nat} {fr v : Nat} {there : Bool} (hB : Best S f A fr v j best there) (h1 : errA S (A j) = 0) (h2 : f (A j) = v) (h3 : v ≠ 0) (h4 : fr ≤ A j) (h5 : there = false ∨ A j < best) : Best S f A fr v (j + 1) (A j) true := by
  refine ⟨fun c => (by cases c), fun _ => ⟨h3, h4, h2⟩, fun i hi k1 k2 k3 k4 => ?_⟩
  by_cases e : i = j
  · subst e; exact ⟨rfl, Nat.le_refl _⟩
  · obtain ⟨q1, q2⟩ := hB.all i (by omega) k1 k2 k3 k4
    rcases h5 with h5 | h5
    · rw [q1] at h5; cases h5
    · exact ⟨rfl, by omega⟩

theorem Best.end_ {S n best at_ : Nat} {f : Nat → Nat} {A : Nat → Nat} {fr v : Nat} {there ok : Bool} (hB : Best S f A fr v n best there) (hs : ∀ y, f y ≠ 0 → ∃ j, j < n ∧ A j = y ∧ errA S (A j) = 0) (hF : FindSays f fr v at_ ok) : ok = there ∧ at_ = best := by
  rcases hF with ⟨h0, h1, h2⟩ | ⟨h0, h1, h2, h3⟩ | ⟨h0, h1, h2, h3, h4⟩
  · cases ht : there with
    | false => exact ⟨h2, by rw [h1, hB.no ht]⟩
    | true => exact absurd h0 (hB.yes ht).1
  · cases ht : there with
    | false => exact ⟨h1, by rw [h2, hB.no ht]⟩
    | true => exact absurd (hB.yes ht).2.2 (h3 best (hB.yes ht).2.1)
  · obtain ⟨j, hj, e, he⟩ := hs at_ (by rw [h3]; exact h0)
    obtain ⟨q1, q2⟩ := hB.all j hj he (by rw [e]; exact h3) h0 (by rw [e]; exact h2)
    refine ⟨by rw [h1, q1], ?_⟩
    obtain ⟨_, p2, p3⟩ := hB.yes q1
    rw [e] at q2
    by_cases c : best < at_
    · exact absurd p3 (h4 best p2 c)
    · omega

set_option maxRecDepth 100000 in
set_option maxHeartbeats 4000000 in
theorem walk0 (ad : Option Addr) (n cap : Nat) (K : Nat → Int) (A V : Nat → Nat) (fr v : Nat) (hfr : fr < 18446744073709551616) (hv : v < 18446744073709551616) (hv0 : v ≠ 0) (w : World) (ho : OpsAt w ad n K A V) (hn : n < 9223372036854775808) :
    Calls Try.prog 7 #[.slice ad n cap, .int .u64 fr, .int .u64 v] w fun e w' => e = .returned (.bool true) ∧ Below w.heap.size w w' := by
  have HO := Hid.mk ho
  have HV0 := Hid.mk hv0
  clear ho hv0
  go_enter Try.func7, Try.ntmps7
  go_wp2_with fail
  refine (anchor_c w).mono ?_
  rintro e w1 ⟨rfl, hb1⟩
  have HB1 := Hid.mk hb1
  clear hb1
  by_cases h40 : 40 < n
  · go_wp2
    go_ret
    exact ⟨rfl, HB1.out⟩
  · go_wp2_with fail
    refine (new_ok 1048576 (by decide) w1).mono ?_
    rintro e w2 ⟨a, rfl, hm, hb2⟩
    have HF0 : Hid (Fresh w w2 a 1048576 0 (fW 1048576 A V 0)) := Fresh.of_new HB1.out hm hb2
    clear hm hb2
    go_wp2
    go_loopw [32] (fun i wr => ∃ k : Nat, k ≤ n ∧ i = .int .i64 k ∧ Fresh w wr a 1048576 k (fW 1048576 A V k)) (fun i _ => n - (intOf i).toNat)
    case atStart => exact ⟨0, by omega, rfl, HF0.out⟩
    case round =>
      clear HF0
      obtain ⟨k, hk, rfl, hR⟩ := hrel
      have HR := Hid.mk hR
      clear hR
      by_cases hlt : k < n
      · obtain ⟨g, o, rfl, hg, q1, q2, q3⟩ := (HO.out.later HR.out.bel).cells k hlt
        have ha := HO.out.al k
        have hvv := HO.out.vl k
        have hw := (HR.out.later ((Below.refl _ wr).alloc (Nat.le_refl _) (.cells #[.int .i64 (K k), .int .u64 (A k : Nat), .int .u64 (V k : Nat)] 34))).write (by omega) (A k) (V k) ha hvv
        generalize hAk : A k = Ak at *
        generalize hVk : V k = Vk at *
        have HA := Hid.mk hAk
        have HV := Hid.mk hVk
        clear hAk hVk
        go_wp2_with fail
        refine hw.mono ?_
        rintro e w3 ⟨rfl, hf⟩
        have HF := Hid.mk hf
        clear hf hw q1 q2 q3
        go_wp2
        refine ⟨⟨k + 1, by omega, by go_num, ?_⟩, by simp [intOf]; omega⟩
        rw [fW_succ, HA.out, HV.out]
        exact HF.out
      · obtain rfl : k = n := by omega
        have hf := HR.out
        obtain ⟨⟨X, hm, hX⟩, hB⟩ := hf
        have hfc := finds_c hm fr v hfr hv
        have HX := Hid.mk hX
        have HM := Hid.mk hm
        have HBB := Hid.mk hB
        have HS : Hid (∀ y, fW 1048576 A V k y ≠ 0 → ∃ j, j < k ∧ A j = y ∧ errA 1048576 (A j) = 0) := fW_supp 1048576 A V k
        have HFl : Hid (∀ y, fW 1048576 A V k y < 18446744073709551616) := by
          obtain ⟨mb, pg, hm⟩ := HM.out
          exact hm.fl
        generalize fW 1048576 A V k = f at *
        clear hm hX hB
        go_wp2_with fail
        refine hfc.mono ?_
        rintro e w3 ⟨⟨r, ok, rfl, hsays, hrl⟩, hb3⟩
        have HSy := Hid.mk hsays
        have HF3 : Hid (Fresh w w3 a 1048576 k f) := Fresh.later ⟨⟨X, HM.out, HX.out⟩, HBB.out⟩ hb3
        clear hfc hsays hb3 HM HX
        go_wp2
        go_loopw [13, 14, 52] (fun b t i wr => ∃ (j : Nat) (best : Nat) (there : Bool), j ≤ k ∧ i = .int .i64 j ∧ b = .int .u64 (best : Nat) ∧ t = .bool there ∧ best < 18446744073709551616 ∧ Best 1048576 f A fr v j best there ∧ Fresh w wr a 1048576 k f) (fun _ _ i _ => k - (intOf i).toNat)
        case atStart => exact ⟨0, 0, false, by omega, rfl, rfl, rfl, by omega, ⟨fun _ => rfl, fun c => (by cases c), fun j hj => (by omega)⟩, HF3.out⟩
        case round =>
          clear HF3
          obtain ⟨j, best, there, hj, rfl, rfl, rfl, hbl, hbest, hR⟩ := hrel
          have HBe := Hid.mk hbest
          have HRj := Hid.mk hR
          clear hbest hR
          by_cases hlt : j < k
          · obtain ⟨g, o, rfl, hg, q1, q2, q3⟩ := (HO.out.later HRj.out.bel).cells j hlt
            have ha := HO.out.al j
            have hrd := (HRj.out.later ((Below.refl _ wr).alloc (Nat.le_refl _) (.cells #[.int .i64 (K j), .int .u64 (A j : Nat), .int .u64 (V j : Nat)] 34))).read (A j) ha
            have HSk : Hid (¬ (errA 1048576 (A j) = 0 ∧ f (A j) = v ∧ v ≠ 0 ∧ fr ≤ A j ∧ (there = false ∨ A j < best)) → Best 1048576 f A fr v (j + 1) best there) := HBe.out.skip
            have HTk : Hid (errA 1048576 (A j) = 0 → f (A j) = v → v ≠ 0 → fr ≤ A j → (there = false ∨ A j < best) → Best 1048576 f A fr v (j + 1) (A j) true) := HBe.out.take
            have hzl := HFl.out (A j)
            generalize errA 1048576 (A j) = E at *
            generalize f (A j) = z at *
            generalize A j = Aj at *
            clear HBe
            go_wp2_with fail
            refine hrd.mono ?_
            rintro e w4 ⟨rfl, hf4, hb4⟩
            have c4 : w4.cell? ⟨wr.heap.size, 1, none⟩ = some (.int .u64 (Aj : Nat)) := by
              rw [hb4.cell (p := ⟨wr.heap.size, 1, none⟩) (by simp)]; simp
            have HF4 := Hid.mk hf4
            clear hrd hf4 hb4 q1 q2 q3
            by_cases x1 : E = 0
            · subst x1
              by_cases x2 : z = v
              · subst x2
                have x3 : z ≠ 0 := HV0.out
                have x3b : ((z : Int) == 0) = false := by simp; omega
                by_cases x4 : fr ≤ Aj
                · have x4d : decide ((fr : Int) ≤ Aj) = true := decide_eq_true (by omega)
                  cases there with
                  | false =>
                    go_wp2
                    refine ⟨⟨j + 1, Aj, true, by omega, by go_num, rfl, rfl, ha, HTk.out (by trivial) (by trivial) x3 x4 (by simp), HF4.out⟩, by simp [intOf]; omega⟩
                  | true =>
                    by_cases x5 : Aj < best
                    · have x5d : decide ((Aj : Int) < best) = true := decide_eq_true (by omega)
                      go_wp2
                      refine ⟨⟨j + 1, Aj, true, by omega, by go_num, rfl, rfl, ha, HTk.out (by trivial) (by trivial) x3 x4 (by simp [x5]), HF4.out⟩, by simp [intOf]; omega⟩
                    · have x5d : decide ((Aj : Int) < best) = false := decide_eq_false (by omega)
                      go_wp2
                      refine ⟨⟨j + 1, best, true, by omega, by go_num, rfl, rfl, hbl, HSk.out (by simp; omega), HF4.out⟩, by simp [intOf]; omega⟩
                · have x4d : decide ((fr : Int) ≤ Aj) = false := decide_eq_false (by omega)
                  go_wp2
                  refine ⟨⟨j + 1, best, there, by omega, by go_num, rfl, rfl, hbl, HSk.out (fun c => x4 c.2.2.2.1), HF4.out⟩, by simp [intOf]; omega⟩
              · have x2b : ((z : Int) == v) = false := by simp; omega
                go_wp2
                refine ⟨⟨j + 1, best, there, by omega, by go_num, rfl, rfl, hbl, HSk.out (fun c => x2 c.2.1), HF4.out⟩, by simp [intOf]; omega⟩
            · have x1b : (E == 0) = false := by simp [x1]
              go_wp2
              refine ⟨⟨j + 1, best, there, by omega, by go_num, rfl, rfl, hbl, HSk.out (fun c => x1 c.1), HF4.out⟩, by simp [intOf]; omega⟩
          · obtain rfl : j = k := by omega
            obtain ⟨e1, e2⟩ := HBe.out.end_ HS.out HSy.out
            subst e1 e2
            go_wp2
            go_ret
            exact ⟨rfl, HRj.out.bel⟩

set_option maxRecDepth 100000 in
set_option maxHeartbeats 4000000 in
theorem walkz (ad : Option Addr) (n cap : Nat) (K : Nat → Int) (A V : Nat → Nat) (fr : Nat) (hfr : fr < 18446744073709551616) (w : World) (ho : OpsAt w ad n K A V) (hn : n < 9223372036854775808) :
    Calls Try.prog 7 #[.slice ad n cap, .int .u64 fr, .int .u64 0] w fun e w' => e = .returned (.bool true) ∧ Below w.heap.size w w' := by
  have HO := Hid.mk ho
  clear ho
  go_enter Try.func7, Try.ntmps7
  go_wp2_with fail
  refine (anchor_c w).mono ?_
  rintro e w1 ⟨rfl, hb1⟩
  have HB1 := Hid.mk hb1
  clear hb1
  by_cases h40 : 40 < n
  · go_wp2
    go_ret
    exact ⟨rfl, HB1.out⟩
  · go_wp2_with fail
    refine (new_ok 1048576 (by decide) w1).mono ?_
    rintro e w2 ⟨a, rfl, hm, hb2⟩
    have HF0 : Hid (Fresh w w2 a 1048576 0 (fW 1048576 A V 0)) := Fresh.of_new HB1.out hm hb2
    clear hm hb2
    go_wp2
    go_loopw [32] (fun i wr => ∃ k : Nat, k ≤ n ∧ i = .int .i64 k ∧ Fresh w wr a 1048576 k (fW 1048576 A V k)) (fun i _ => n - (intOf i).toNat)
    case atStart => exact ⟨0, by omega, rfl, HF0.out⟩
    case round =>
      clear HF0
      obtain ⟨k, hk, rfl, hR⟩ := hrel
      have HR := Hid.mk hR
      clear hR
      by_cases hlt : k < n
      · obtain ⟨g, o, rfl, hg, q1, q2, q3⟩ := (HO.out.later HR.out.bel).cells k hlt
        have ha := HO.out.al k
        have hvv := HO.out.vl k
        have hw := (HR.out.later ((Below.refl _ wr).alloc (Nat.le_refl _) (.cells #[.int .i64 (K k), .int .u64 (A k : Nat), .int .u64 (V k : Nat)] 34))).write (by omega) (A k) (V k) ha hvv
        generalize hAk : A k = Ak at *
        generalize hVk : V k = Vk at *
        have HA := Hid.mk hAk
        have HV := Hid.mk hVk
        clear hAk hVk
        go_wp2_with fail
        refine hw.mono ?_
        rintro e w3 ⟨rfl, hf⟩
        have HF := Hid.mk hf
        clear hf hw q1 q2 q3
        go_wp2
        refine ⟨⟨k + 1, by omega, by go_num, ?_⟩, by simp [intOf]; omega⟩
        rw [fW_succ, HA.out, HV.out]
        exact HF.out
      · obtain rfl : k = n := by omega
        have hf := HR.out
        obtain ⟨⟨X, hm, hX⟩, hB⟩ := hf
        have hfc : Calls Try.prog 21 #[.pointer (some ⟨a, 0, none⟩), .int .u64 fr, .int .u64 0] wr fun e w' => FindPost (fW 1048576 A V k) fr 0 wr e w' := finds_c hm fr 0 hfr (by omega)
        have HX := Hid.mk hX
        have HM := Hid.mk hm
        have HBB := Hid.mk hB
        have HS : Hid (∀ y, fW 1048576 A V k y ≠ 0 → ∃ j, j < k ∧ A j = y ∧ errA 1048576 (A j) = 0) := fW_supp 1048576 A V k
        have HFl : Hid (∀ y, fW 1048576 A V k y < 18446744073709551616) := by
          obtain ⟨mb, pg, hm⟩ := HM.out
          exact hm.fl
        generalize fW 1048576 A V k = f at *
        clear hm hX hB
        go_wp2_with fail
        refine hfc.mono ?_
        rintro e w3 ⟨⟨r, ok, rfl, hsays, hrl⟩, hb3⟩
        have HSy := Hid.mk hsays
        have HF3 : Hid (Fresh w w3 a 1048576 k f) := Fresh.later ⟨⟨X, HM.out, HX.out⟩, HBB.out⟩ hb3
        clear hfc hsays hb3 HM HX
        go_wp2
        go_loopw [13, 14, 52] (fun b t i wr => ∃ (j : Nat) (best : Nat) (there : Bool), j ≤ k ∧ i = .int .i64 j ∧ b = .int .u64 (best : Nat) ∧ t = .bool there ∧ best < 18446744073709551616 ∧ Best 1048576 f A fr 0 j best there ∧ Fresh w wr a 1048576 k f) (fun _ _ i _ => k - (intOf i).toNat)
        case atStart => exact ⟨0, 0, false, by omega, rfl, rfl, rfl, by omega, ⟨fun _ => rfl, fun c => (by cases c), fun j hj => (by omega)⟩, HF3.out⟩
        case round =>
          clear HF3
          obtain ⟨j, best, there, hj, rfl, rfl, rfl, hbl, hbest, hR⟩ := hrel
          have HBe := Hid.mk hbest
          have HRj := Hid.mk hR
          clear hbest hR
          by_cases hlt : j < k
          · obtain ⟨g, o, rfl, hg, q1, q2, q3⟩ := (HO.out.later HRj.out.bel).cells j hlt
            have ha := HO.out.al j
            have hrd := (HRj.out.later ((Below.refl _ wr).alloc (Nat.le_refl _) (.cells #[.int .i64 (K j), .int .u64 (A j : Nat), .int .u64 (V j : Nat)] 34))).read (A j) ha
            have HSk : Hid (Best 1048576 f A fr 0 (j + 1) best there) := HBe.out.skip (fun c => c.2.2.1 rfl)
            have hzl := HFl.out (A j)
            generalize errA 1048576 (A j) = E at *
            generalize f (A j) = z at *
            generalize A j = Aj at *
            clear HBe
            go_wp2_with fail
            refine hrd.mono ?_
            rintro e w4 ⟨rfl, hf4, hb4⟩
            have c4 : w4.cell? ⟨wr.heap.size, 1, none⟩ = some (.int .u64 (Aj : Nat)) := by
              rw [hb4.cell (p := ⟨wr.heap.size, 1, none⟩) (by simp)]; simp
            have HF4 := Hid.mk hf4
            clear hrd hf4 hb4 q1 q2 q3
            by_cases x1 : E = 0
            · subst x1
              by_cases x2 : z = 0
              · subst x2
                go_wp2
                refine ⟨⟨j + 1, best, there, by omega, by go_num, rfl, rfl, hbl, HSk.out, HF4.out⟩, by simp [intOf]; omega⟩
              · have x2b : ((z : Int) == 0) = false := by simp; omega
                go_wp2
                refine ⟨⟨j + 1, best, there, by omega, by go_num, rfl, rfl, hbl, HSk.out, HF4.out⟩, by simp [intOf]; omega⟩
            · have x1b : (E == 0) = false := by simp [x1]
              go_wp2
              refine ⟨⟨j + 1, best, there, by omega, by go_num, rfl, rfl, hbl, HSk.out, HF4.out⟩, by simp [intOf]; omega⟩
          · obtain rfl : j = k := by omega
            obtain ⟨e1, e2⟩ := HBe.out.end_ HS.out HSy.out
            subst e1 e2
            go_wp2
            go_ret
            exact ⟨rfl, HRj.out.bel⟩
theorem walk (ad : Option Addr) (n cap : Nat) (K : Nat → Int) (A V : Nat → Nat) (fr v : Nat) (hn : n ≤ maxLen) (hfr : fr < 18446744073709551616) (hv : v < 18446744073709551616) (W : World) (ho : OpsAt W ad n K A V) :
    Calls Try.prog 7 #[.slice ad n cap, .int .u64 fr, .int .u64 v] W fun e w' => e = .returned (.bool true) ∧ Below W.heap.size W w' := by
  have hn' : n < 9223372036854775808 := by unfold maxLen at hn; omega
  by_cases hv0 : v = 0
  · subst hv0
    exact walkz ad n cap K A V fr hfr W ho hn'
  · exact walk0 ad n cap K A V fr v hfr hv hv0 W ho hn'

end Go.Proofs.Ytiedlkhbbnjkbaa.physFinds
