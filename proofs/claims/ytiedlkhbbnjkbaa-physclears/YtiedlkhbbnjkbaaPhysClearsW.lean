/- PhysClears: behind a clear just the bytes that it names are 0, all others are as they were. -/
import Derived.Test.YtiedlkhbbnjkbaaPhysTwo
import Derived.Test.YtiedlkhbbnjkbaaPhysClear0
namespace Go.Proofs.Ytiedlkhbbnjkbaa.physClears
open Go.RowKit Go.Maps

theorem two_clear {w wr : World} {a S n b T m : Nat} {f g : Nat → Nat} (h : Two w wr a S n f b T m g) (hn : n < 100000000) (A N : Nat) (hA : A < 18446744073709551616) (hN : N < 18446744073709551616) :
    Calls Try.prog 16 #[.pointer (some ⟨a, 0, none⟩), .int .u64 A, .int .u64 N] wr fun e w' => e = .returned (.int .i64 (errC S A N)) ∧ Two w w' a S n (clrF f S A N) b T m g := by
  obtain ⟨⟨X, Y, h1, h2, h3, h4, h5⟩, hB⟩ := h
  refine (clear_c h1 hn A N hA hN).mono fun e w' hh => ⟨hh.1, ⟨X, Y, hh.2.1, h2.turn hh.2.2 (fun i hy hx => h3 i hx hy), h3, h4, h5⟩, hB.trans (hh.2.2.below h4 hB.size)⟩

set_option maxRecDepth 100000 in
set_option maxHeartbeats 4000000 in
theorem walk (ad : Option Addr) (n cap : Nat) (K : Nat → Int) (A V : Nat → Nat) (x v : Nat) (hn : n ≤ maxLen) (hx : x < 18446744073709551616) (hv : v < 18446744073709551616) (w : World) (ho : OpsAt w ad n K A V) :
    Calls Try.prog 5 #[.slice ad n cap, .int .u64 x, .int .u64 v] w fun e w' => e = .returned (.bool true) ∧ Below w.heap.size w w' := by
  have hn' : n < 9223372036854775808 := by unfold maxLen at hn; omega
  have HO := Hid.mk ho
  clear ho hn
  go_enter Try.func5, Try.ntmps5
  go_wp2_with fail
  refine (anchor_c w).mono ?_
  rintro e w1 ⟨rfl, hb1⟩
  have HB1 := Hid.mk hb1
  clear hb1
  by_cases h60 : 60 < n
  · go_wp2
    go_ret
    exact ⟨rfl, HB1.out⟩
  · go_wp2_with fail
    refine (new_ok 1048576 (by decide) w1).mono ?_
    rintro e w2 ⟨a, rfl, hm, hb2⟩
    have HF0 : Hid (Fresh w w2 a 1048576 0 (fW 1048576 A V 0)) := Fresh.of_new HB1.out hm hb2
    clear hm hb2
    go_wp2
    go_loopw [31] (fun i wr => ∃ k : Nat, k ≤ n ∧ i = .int .i64 k ∧ Fresh w wr a 1048576 k (fW 1048576 A V k)) (fun i _ => n - (intOf i).toNat)
    case atStart => exact ⟨0, by omega, rfl, HF0.out⟩
    case round =>
      clear HF0
      obtain ⟨k, hk, rfl, hR⟩ := hrel
      have HR := Hid.mk hR
      clear hR
      by_cases hlt : k < n
      · obtain ⟨g, o, rfl, hg, q1, q2, q3⟩ := (HO.out.later HR.out.bel).cells k hlt
        have ha := HO.out.al k
        have hvv := HO.out.vl k
        have hw := (HR.out.later ((Below.refl _ wr).alloc (Nat.le_refl _) (.cells #[.int .i64 (K k), .int .u64 (A k : Nat), .int .u64 (V k : Nat)] 34))).write (by omega) (A k) (V k) ha hvv
        generalize hAk : A k = Ak at *
        generalize hVk : V k = Vk at *
        have HA := Hid.mk hAk
        have HV := Hid.mk hVk
        clear hAk hVk
        go_wp2_with fail
        refine hw.mono ?_
        rintro e w3 ⟨rfl, hf⟩
        have HF := Hid.mk hf
        clear hf hw q1 q2 q3
        go_wp2
        refine ⟨⟨k + 1, by omega, by go_num, ?_⟩, by simp [intOf]; omega⟩
        rw [fW_succ, HA.out, HV.out]
        exact HF.out
      · obtain rfl : k = n := by omega
        have HFl : Hid (∀ y, fW 1048576 A V k y < 18446744073709551616) := by
          obtain ⟨⟨X, ⟨mb, pg, hm⟩, _⟩, _⟩ := HR.out
          exact hm.fl
        generalize fW 1048576 A V k = f at *
        obtain ⟨⟨X, hmX, hX⟩, hB⟩ := HR.out
        have hcp := copy_c hmX (by omega)
        clear hmX hX hB
        go_wp2_with fail
        refine hcp.mono ?_
        rintro e w4 ⟨c, rfl, hmc, hb4⟩
        have HT : Hid (Two w w4 a 1048576 k f c 1048576 k f) := Two.of_new HR.out hmc hb4
        have hcl := two_clear HT.out (by omega) x v hx hv
        clear hcp hmc hb4
        have HC1 : Hid (errC 1048576 x v ≠ 0 → clrF f 1048576 x v = f) := fun he => by unfold clrF; rw [if_neg he]
        have HC2 : Hid (errC 1048576 x v = 0 → ∀ y, clrF f 1048576 x v y = if x ≤ y ∧ y < x + v then 0 else f y) := fun he y => by unfold clrF; rw [if_pos he]
        have HC3 : Hid (errC 1048576 x v = 0 → x + v ≤ 1048576) := fun he => by
          unfold errC at he
          by_cases c1 : x % 8 ≠ 0 ∨ v % 8 ≠ 0
          · rw [if_pos c1] at he; cases he
          · rw [if_neg c1] at he
            by_cases c2 : 1048576 < x ∨ 1048576 - x < v
            · rw [if_pos c2] at he; cases he
            · omega
        generalize clrF f 1048576 x v = f2 at *
        generalize errC 1048576 x v = EC at *
        go_wp2_with fail
        refine hcl.mono ?_
        rintro e w5 ⟨rfl, hT5⟩
        have HT5 := Hid.mk hT5
        clear hT5 hcl HT
        by_cases he : EC = 0
        · subst he
          have HT5' : Hid (Two w w5 a 1048576 k f2 c 1048576 k f) := HT5.out
          have HY : Hid (∀ y, f2 y = if x ≤ y ∧ y < x + v then 0 else f y) := HC2.out rfl
          have hxv : x + v ≤ 1048576 := HC3.out rfl
          clear HC1 HC2 HC3 HT5
          go_wp2
          go_loopw [54] (fun i wr => ∃ j : Nat, j ≤ k ∧ i = .int .i64 j ∧ Two w wr a 1048576 k f2 c 1048576 k f) (fun i _ => k - (intOf i).toNat)
          case atStart => exact ⟨0, by omega, rfl, HT5'.out⟩
          case round =>
            clear HT5'
            obtain ⟨j, hj, rfl, hR⟩ := hrel
            have HRj := Hid.mk hR
            clear hR
            by_cases hlt : j < k
            · obtain ⟨g, o, rfl, hg, q1, q2, q3⟩ := (HO.out.later HRj.out.bel).cells j hlt
              have ha := HO.out.al j
              have HT6 := Hid.mk (HRj.out.later ((Below.refl _ wr).alloc (Nat.le_refl _) (.cells #[.int .i64 (K j), .int .u64 (A j : Nat), .int .u64 (V j : Nat)] 34)))
              have hr1 := HT6.out.swap.read (A j) ha
              have hzl := HFl.out (A j)
              have hy := HY.out (A j)
              generalize hAj : A j = Aj at *
              generalize hzz : f Aj = z at *
              generalize hyy : f2 Aj = y at *
              generalize hEE : errA 1048576 Aj = E at *
              clear hAj HRj
              go_wp2_with fail
              refine hr1.mono ?_
              rintro e w7 ⟨rfl, hT7, hb7⟩
              have c7 : w7.cell? ⟨wr.heap.size, 1, none⟩ = some (.int .u64 (Aj : Nat)) := by
                rw [hb7.cell (p := ⟨wr.heap.size, 1, none⟩) (by simp)]; simp
              have h7lt : wr.heap.size < w7.heap.size := by
                have := hb7.size
                simp at this
                omega
              have hr2 := hT7.swap.read Aj ha
              rw [hyy, hEE] at hr2
              clear hr1 hT7 hb7 q1 q2 q3 hyy hEE hzz
              go_wp2_with fail
              refine hr2.mono ?_
              rintro e w8 ⟨rfl, hT8, hb8⟩
              have c8 : w8.cell? ⟨wr.heap.size, 1, none⟩ = some (.int .u64 (Aj : Nat)) := by
                rw [hb8.cell (p := ⟨wr.heap.size, 1, none⟩) h7lt]; exact c7
              have HT8 := Hid.mk hT8
              clear hr2 hT8 hb8 c7 h7lt
              by_cases x1 : E = 0
              · subst x1
                by_cases x2 : x ≤ Aj
                · have x2d : decide ((x : Int) ≤ Aj) = true := decide_eq_true (by omega)
                  have x2e : decide ((Aj : Int) < x) = false := decide_eq_false (by omega)
                  by_cases x3 : Aj - x < v
                  · have x3d : decide ((Aj : Int) - x < v) = true := decide_eq_true (by omega)
                    have x3e : decide ((v : Int) ≤ (Aj : Int) - x) = false := decide_eq_false (by omega)
                    obtain rfl : y = 0 := by rw [hy, if_pos (by omega)]
                    clear hy
                    by_cases x4 : z = 0
                    · subst x4
                      go_wp2
                      refine ⟨⟨j + 1, by omega, by go_num, HT8.out⟩, by simp [intOf]; omega⟩
                    · have x4b : ((z : Int) == 0) = false := by simp; omega
                      go_wp2
                      refine ⟨⟨j + 1, by omega, by go_num, HT8.out⟩, by simp [intOf]; omega⟩
                  · have x3d : decide ((Aj : Int) - x < v) = false := decide_eq_false (by omega)
                    have x3e : decide ((v : Int) ≤ (Aj : Int) - x) = true := decide_eq_true (by omega)
                    obtain rfl : y = z := by rw [hy, if_neg (by omega)]
                    clear hy
                    by_cases x4 : y = 0
                    · subst x4
                      go_wp2
                      refine ⟨⟨j + 1, by omega, by go_num, HT8.out⟩, by simp [intOf]; omega⟩
                    · have x4b : ((y : Int) == 0) = false := by simp; omega
                      go_wp2
                      refine ⟨⟨j + 1, by omega, by go_num, HT8.out⟩, by simp [intOf]; omega⟩
                · have x2d : decide ((x : Int) ≤ Aj) = false := decide_eq_false (by omega)
                  have x2e : decide ((Aj : Int) < x) = true := decide_eq_true (by omega)
                  obtain rfl : y = z := by rw [hy, if_neg (by omega)]
                  clear hy
                  by_cases x4 : y = 0
                  · subst x4
                    go_wp2
                    refine ⟨⟨j + 1, by omega, by go_num, HT8.out⟩, by simp [intOf]; omega⟩
                  · have x4b : ((y : Int) == 0) = false := by simp; omega
                    go_wp2
                    refine ⟨⟨j + 1, by omega, by go_num, HT8.out⟩, by simp [intOf]; omega⟩
              · have x1b : (E == 0) = false := by simp [x1]
                clear hy
                go_wp2
                refine ⟨⟨j + 1, by omega, by go_num, HT8.out⟩, by simp [intOf]; omega⟩
            · obtain rfl : j = k := by omega
              go_wp2
              go_ret
              exact ⟨rfl, HRj.out.bel⟩
        · have heb : (EC == 0) = false := by simp [he]
          obtain rfl : f2 = f := HC1.out he
          have hs := HT5.out.same
          clear HC2 HC3 HC1
          go_wp2_with fail
          refine hs.mono ?_
          rintro e w6 ⟨⟨q, rfl, hq⟩, hb6⟩
          obtain rfl : q = true := hq.2 (by simp)
          have HB6 : Hid (Below w.heap.size w w6) := below_tr HT5.out.bel hb6
          clear hs hq hb6
          go_wp2
          go_ret
          exact ⟨rfl, HB6.out⟩
end Go.Proofs.Ytiedlkhbbnjkbaa.physClears
