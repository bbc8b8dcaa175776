/- PhysDiffers: two memories differ just at the addresses that are told. -/
import Derived.Test.YtiedlkhbbnjkbaaDiffTwo
namespace Go.Proofs.Ytiedlkhbbnjkbaa.physDiffers
open Go.RowKit Go.Maps

abbrev Z : Nat := 1048576

set_option maxRecDepth 1000000 in
set_option maxHeartbeats 8000000 in
theorem walk (ad : Option Addr) (n cap : Nat) (K : Nat → Int) (A V : Nat → Nat) (ad2 : Option Addr) (n2 cap2 : Nat) (K2 : Nat → Int) (A2 V2 : Nat → Nat) (most : Int) (hn : n ≤ maxLen) (hn2 : n2 ≤ maxLen) (hmost : -9223372036854775808 ≤ most ∧ most ≤ 9223372036854775807) (w : World) (ho : OpsAt w ad n K A V) (ho2 : OpsAt w ad2 n2 K2 A2 V2) :
    Calls Try.prog 6 #[.slice ad n cap, .slice ad2 n2 cap2, .int .i64 most] w fun e w' => e = .returned (.bool true) ∧ Below w.heap.size w w' := by
  have hn' : n < 9223372036854775808 := by unfold maxLen at hn; omega
  have hn2' : n2 < 9223372036854775808 := by unfold maxLen at hn2; omega
  have HO := Hid.mk ho
  have HO2 := Hid.mk ho2
  clear ho ho2 hn hn2
  obtain ⟨hmo1, hmo2⟩ := hmost
  go_enter Try.func6, Try.ntmps6
  go_wp2_with fail
  refine (anchor_c w).mono ?_
  rintro e w1 ⟨rfl, hb1⟩
  have HB1 := Hid.mk hb1
  clear hb1
  by_cases h40 : 40 < n
  · go_wp2
    go_ret
    exact ⟨rfl, HB1.out⟩
  by_cases h402 : 40 < n2
  · go_wp2
    go_ret
    exact ⟨rfl, HB1.out⟩
  go_wp2_with fail
  refine (new_ok 1048576 (by decide) w1).mono ?_
  rintro e w2 ⟨a, rfl, hm, hb2⟩
  have HF0 : Hid (Fresh w w2 a 1048576 0 (fX (fun _ => 0) 1048576 A V 0)) := Fresh.of_new HB1.out hm hb2
  clear hm hb2
  go_wp2_with fail
  refine (new_ok 1048576 (by decide) w2).mono ?_
  rintro e w3 ⟨b, rfl, hm, hb3⟩
  have HT0 : Hid (Two w w3 a 1048576 0 (fX (fun _ => 0) 1048576 A V 0) b 1048576 0 (fX (fun _ => 0) 1048576 A V 0)) := Two.of_new HF0.out hm hb3
  clear hm hb3 HF0
  go_wp2
  go_loopw [54] (fun i wr => ∃ k : Nat, k ≤ n ∧ i = .int .i64 k ∧ Two w wr a 1048576 k (fX (fun _ => 0) 1048576 A V k) b 1048576 k (fX (fun _ => 0) 1048576 A V k)) (fun i _ => n - (intOf i).toNat)
  case atStart => exact ⟨0, by omega, rfl, HT0.out⟩
  case round =>
    clear HT0
    obtain ⟨k, hk, rfl, hR⟩ := hrel
    have HR := Hid.mk hR
    clear hR
    by_cases hlt : k < n
    · obtain ⟨g, o, rfl, hg, q1, q2, q3⟩ := (HO.out.later HR.out.bel).cells k hlt
      have ha := HO.out.al k
      have hvv := HO.out.vl k
      have hR2 := HR.out.with ((Below.refl _ wr).alloc (Nat.le_refl _) (.cells #[.int .i64 (K k), .int .u64 (A k : Nat), .int .u64 (V k : Nat)] 34))
      have hw := hR2.write (by omega) (A k) (V k) ha hvv
      generalize hAk : A k = Ak at *
      generalize hVk : V k = Vk at *
      have HA := Hid.mk hAk
      have HV := Hid.mk hVk
      clear hAk hVk hR2
      go_wp2_with fail
      refine hw.mono ?_
      rintro e w4 ⟨rfl, hf⟩
      have d1 : w4.cell? ⟨wr.heap.size, 1, none⟩ = some (.int .u64 (Ak : Nat)) := (hf.cell ⟨Nat.le_refl _, by simp⟩ 1).trans (by simp)
      have d2 : w4.cell? ⟨wr.heap.size, 2, none⟩ = some (.int .u64 (Vk : Nat)) := (hf.cell ⟨Nat.le_refl _, by simp⟩ 2).trans (by simp)
      have hw2 := hf.swap.write (by omega) Ak Vk ha hvv
      clear hf hw q1 q2 q3
      go_wp2_with fail
      refine hw2.mono ?_
      rintro e w5 ⟨rfl, hf⟩
      have HF := Hid.mk hf.swap.two
      clear hf hw2 d1 d2
      go_wp2
      refine ⟨⟨k + 1, by omega, by go_num, ?_⟩, by simp [intOf]; omega⟩
      rw [fX_succ, HA.out, HV.out]
      exact HF.out
    · obtain rfl : k = n := by omega
      obtain ⟨f, hf0⟩ : ∃ f, f = fX (fun _ => 0) 1048576 A V k := ⟨_, rfl⟩
      have HR1 : Hid (Two w wr a 1048576 k f b 1048576 (k + 0) (fX f 1048576 A2 V2 0)) := by
        have := HR.out
        rw [← hf0] at this
        exact this
      clear HR hf0
      go_wp2
      go_loopw [73] (fun i wr => ∃ j : Nat, j ≤ n2 ∧ i = .int .i64 j ∧ Two w wr a 1048576 k f b 1048576 (k + j) (fX f 1048576 A2 V2 j)) (fun i _ => n2 - (intOf i).toNat)
      case atStart => exact ⟨0, by omega, rfl, HR1.out⟩
      case round =>
        clear HR1
        obtain ⟨j, hj, rfl, hR⟩ := hrel
        have HR := Hid.mk hR
        clear hR
        by_cases hlt2 : j < n2
        · obtain ⟨g, o, rfl, hg, q1, q2, q3⟩ := (HO2.out.later HR.out.bel).cells j hlt2
          have ha := HO2.out.al j
          have hvv := HO2.out.vl j
          have hw := (HR.out.later ((Below.refl _ wr).alloc (Nat.le_refl _) (.cells #[.int .i64 (K2 j), .int .u64 (A2 j : Nat), .int .u64 (V2 j : Nat)] 34))).swap.write (by omega) (A2 j) (V2 j) ha hvv
          generalize hAk : A2 j = Ak at *
          generalize hVk : V2 j = Vk at *
          have HA := Hid.mk hAk
          have HV := Hid.mk hVk
          clear hAk hVk
          go_wp2_with fail
          refine hw.mono ?_
          rintro e w4 ⟨rfl, hf⟩
          have HF := Hid.mk hf.swap
          clear hf hw q1 q2 q3
          go_wp2
          refine ⟨⟨j + 1, by omega, by go_num, ?_⟩, by simp [intOf]; omega⟩
          rw [fX_succ, HA.out, HV.out]
          exact HF.out
        · obtain rfl : j = n2 := by omega
          obtain ⟨g, hg0⟩ : ∃ g, g = fX f 1048576 A2 V2 j := ⟨_, rfl⟩
          have hoff : ∀ y, f y ≠ g y → ∃ i, i < j ∧ A2 i = y := fun y hy => fX_off (by rw [← hg0]; exact Ne.symm hy)
          have hR1 : Two w wr a 1048576 k f b 1048576 (k + j) g := by
            have := HR.out
            rw [← hg0] at this
            exact this
          obtain ⟨o1, o2, o3, o4⟩ := hR1.outs
          have hdl : (dl f g 1048576).length ≤ j := dl_len hoff
          have hdf := hR1.differ (by omega) 100 (by omega) (by omega)
          rw [List.take_of_length_le (show (dl f g 1048576).length ≤ (100 : Int).toNat by omega)] at hdf
          have HDM : Hid (∀ y, y ∈ dl f g 1048576 ↔ f y ≠ g y) := fun y => mem_dl (by decide) o1 o2
          have HAS := Hid.mk (dl_asc f g 1048576)
          have HOUT := Hid.mk (And.intro o1 (And.intro o2 o4))
          have HG0 := Hid.mk hg0
          have HR1 := Hid.mk hR1
          clear hR1 o1 o2 o3 o4 hoff hg0 HR
          generalize dl f g 1048576 = ds at *
          go_wp2_with fail
          refine hdf.mono ?_
          rintro e w4 ⟨v, rfl, hW, hb4⟩
          have hTF := HR1.out.with hb4
          obtain ⟨p, cap3, rfl, -⟩ := hW.form
          obtain ⟨lo, hlo⟩ : ∃ lo, lo = wr.heap.size := ⟨_, rfl⟩
          rw [← hlo] at hW hTF
          have hPP : ∀ i, lo ≤ i → i < w4.heap.size → (fun i => lo ≤ i ∧ i < w4.heap.size) i := fun i q1 q2 => ⟨q1, q2⟩
          generalize (fun i => lo ≤ i ∧ i < w4.heap.size) = P at *
          have HPP := Hid.mk hPP
          have HW := Hid.mk hW
          have HTF : Hid (TwoF w w4 P w4 a 1048576 (k + 0) (fI f g ds 0) b 1048576 (k + j) g) := by
            show TwoF w w4 P w4 a 1048576 (k + 0) (fI f g ds 0) b 1048576 (k + j) g
            rw [fI_zero]; exact hTF
          clear hW hb4 hdf hTF hPP hlo HR1
          generalize hdsl : ds.length = dn3 at *
          have HDL := Hid.mk hdsl
          clear hdsl
          go_wp2
          go_loopw [89] (fun s wr => ∃ i : Nat, i ≤ dn3 ∧ s = .int .i64 i ∧ TwoF w w4 P wr a 1048576 (k + i) (fI f g ds i) b 1048576 (k + j) g) (fun s _ => dn3 - (intOf s).toNat)
          case atStart => exact ⟨0, by omega, rfl, HTF.out⟩
          case round =>
            clear HTF
            obtain ⟨i, hi, rfl, hR⟩ := hrel
            have HR := Hid.mk hR
            clear hR
            by_cases hlt3 : i < dn3
            · have hil : i < ds.length := by rw [HDL.out]; exact hlt3
              obtain ⟨gb, rfl, hci⟩ := (HR.out.wsl HW.out HPP.out).at i hil
              obtain ⟨x, hx⟩ : ∃ x, x = ds[i]! := ⟨_, rfl⟩
              have hxm : x ∈ ds := by rw [hx, getElem!_pos ds i hil]; exact List.getElem_mem hil
              have hfg := (HDM.out x).1 hxm
              have hx8 : x % 8 = 0 ∧ x < 1048576 := by
                constructor
                · apply Classical.byContradiction
                  intro c
                  exact hfg ((HOUT.out.1 x (Or.inl c)).trans (HOUT.out.2.1 x (Or.inl c)).symm)
                · apply Classical.byContradiction
                  intro c
                  exact hfg ((HOUT.out.1 x (Or.inr (by omega))).trans (HOUT.out.2.1 x (Or.inr (by omega))).symm)
              have he0 : errA 1048576 x = 0 := errA_zero hx8.1 hx8.2
              have hfi : fI f g ds i x = f x := by rw [hx]; exact fI_at HAS.out hil
              have HSU : Hid (wrF (fI f g ds i) 1048576 x (g x) = fI f g ds (i + 1)) := by
                show wrF (fI f g ds i) 1048576 x (g x) = fI f g ds (i + 1)
                rw [hx]; exact fI_succ hil (by rw [← hx]; exact he0)
              have hgl := HOUT.out.2.2 x
              have hr1 := HR.out.read x (by omega)
              rw [hfi, he0] at hr1
              rw [← hx] at hci
              have HX := Hid.mk hx
              have HE0 := Hid.mk he0
              clear hx hxm hil hfi he0
              go_wp2_with fail
              refine hr1.mono ?_
              rintro e w5 ⟨rfl, h5⟩
              have hr2 := h5.swap.read x (by omega)
              rw [HE0.out] at hr2
              clear hr1 h5 hci
              go_wp2_with fail
              refine hr2.mono ?_
              rintro e w6 ⟨rfl, h6⟩
              have hwr := h6.swap.write (by omega) x (g x) (by omega) hgl
              rw [HSU.out, HE0.out] at hwr
              have HC := Hid.mk (h6.wsl HW.out HPP.out).at
              clear hr2 h6 HSU
              generalize f x = F at *
              generalize g x = G at *
              have hne : ¬ ((F : Int) = G) := by omega
              by_cases hi0 : i = 0
              · subst hi0
                go_wp2_with fail
                refine hwr.mono ?_
                rintro e w7 ⟨rfl, h7⟩
                have H7 := Hid.mk h7
                clear hwr h7
                go_wp2
                exact ⟨⟨1, by omega, by first | rfl | go_num, H7.out⟩, by simp [intOf]; omega⟩
              · obtain ⟨i1, hi1⟩ : ∃ i1, i1 + 1 = i := ⟨i - 1, by omega⟩
                have ii1 : (i : Int) - 1 = (i1 : Int) := by omega
                have hi0p : 0 < i := by omega
                obtain ⟨gb', hgb, hc1⟩ := HC.out i1 (by rw [HDL.out]; omega)
                cases hgb
                have hprev : ds[i1]! < x := by
                  rw [HX.out]
                  have q1 : i1 < ds.length := by rw [HDL.out]; omega
                  have q2 : i < ds.length := by rw [HDL.out]; omega
                  rw [getElem!_pos ds i1 q1, getElem!_pos ds i q2]
                  exact (List.pairwise_iff_getElem.1 HAS.out) i1 i q1 q2 (by omega)
                generalize ds[i1]! = pr at *
                have hprz : ¬ ((x : Int) ≤ pr) := by omega
                have hprn : ¬ (x ≤ pr) := by omega
                have hnn : ¬ (F = G) := by omega
                have hi1b : (i1 : Int) < dn3 := by omega
                have HI1 := Hid.mk hi1
                clear hi1
                go_wp2_with fail
                refine hwr.mono ?_
                rintro e w7 ⟨rfl, h7⟩
                have H7 := Hid.mk h7
                clear hwr h7 hc1
                go_wp2
                exact ⟨⟨i + 1, by omega, by first | rfl | go_num, H7.out⟩, by simp [intOf]; omega⟩
            · obtain rfl : i = dn3 := by omega
              have hR : Two w wr a 1048576 (k + i) g b 1048576 (k + j) g := by
                have := HR.out.two
                rw [fI_end HDM.out (Nat.le_of_eq HDL.out)] at this
                exact this
              have HR5 := Hid.mk hR
              have hsm := hR.same
              clear hR HR HW HDM HAS HPP
              go_wp2_with fail
              refine hsm.mono ?_
              rintro e w5 ⟨⟨q, rfl, hq⟩, hb5⟩
              obtain rfl : q = true := hq.2 (by simp)
              have hR6 := HR5.out.later hb5
              have hdf := hR6.differ (by omega) 100 (by omega) (by omega)
              rw [dl_self] at hdf
              have HR6 := Hid.mk hR6
              clear hsm hq hb5 HR5 hR6
              go_wp2_with fail
              refine hdf.mono ?_
              rintro e w6 ⟨v6, rfl, hW6, hb6⟩
              obtain ⟨p6, cap6, rfl, -⟩ := hW6.form
              have HR7 := Hid.mk (HR6.out.later hb6)
              clear hdf hW6 hb6 HR6
              obtain ⟨Vp, hVp⟩ : ∃ Vp : Nat → Nat, ∀ t, Vp t = (V2 t + 1) % 18446744073709551616 := ⟨_, fun _ => rfl⟩
              have HVP := Hid.mk hVp
              have HR8 : Hid (Two w w6 a 1048576 (k + i + 0) (fX g 1048576 A2 Vp 0) b 1048576 (k + j) g) := HR7.out
              clear hVp HR7 HG0 HOUT HDL
              go_wp2
              go_loopw [140] (fun s wr => ∃ t : Nat, t ≤ j ∧ s = .int .i64 t ∧ Two w wr a 1048576 (k + i + t) (fX g 1048576 A2 Vp t) b 1048576 (k + j) g) (fun s _ => j - (intOf s).toNat)
              case atStart => exact ⟨0, by omega, rfl, HR8.out⟩
              case round =>
                clear HR8
                obtain ⟨t, ht, rfl, hR⟩ := hrel
                have HR := Hid.mk hR
                clear hR
                by_cases hlt4 : t < j
                · obtain ⟨gb, o, rfl, hgb, q1, q2, q3⟩ := (HO2.out.later HR.out.bel).cells t hlt4
                  have ha := HO2.out.al t
                  have hvv := HO2.out.vl t
                  have hvp := HVP.out t
                  have hw := (HR.out.later ((Below.refl _ wr).alloc (Nat.le_refl _) (.cells #[.int .i64 (K2 t), .int .u64 (A2 t : Nat), .int .u64 (V2 t : Nat)] 34))).write (by omega) (A2 t) (Vp t) ha (by omega)
                  generalize hAk : A2 t = Ak at *
                  generalize hVk : V2 t = Vk at *
                  generalize hVpk : Vp t = Vpk at *
                  have HA := Hid.mk hAk
                  have HV := Hid.mk hVpk
                  clear hAk hVk hVpk
                  by_cases hbig : Vk + 1 < 18446744073709551616
                  · have hv1 : (Vk : Int) + 1 = (Vpk : Int) := by omega
                    have HVV := Hid.mk hvp
                    clear hvp
                    go_wp2_with fail
                    refine hw.mono ?_
                    rintro e w7 ⟨rfl, hf⟩
                    have HF := Hid.mk hf
                    clear hf hw q1 q2 q3 hv1
                    go_wp2
                    refine ⟨⟨t + 1, by omega, by go_num, ?_⟩, by simp [intOf]; omega⟩
                    rw [fX_succ, HA.out, HV.out]
                    exact HF.out
                  · obtain rfl : Vpk = 0 := by omega
                    obtain rfl : Vk = 18446744073709551615 := by omega
                    clear hvp hbig
                    go_wp2_with fail
                    refine hw.mono ?_
                    rintro e w7 ⟨rfl, hf⟩
                    have HF := Hid.mk hf
                    clear hf hw q1 q2 q3
                    go_wp2
                    refine ⟨⟨t + 1, by omega, by go_num, ?_⟩, by simp [intOf]; omega⟩
                    rw [fX_succ, HA.out, HV.out]
                    exact HF.out
                · obtain rfl : t = j := by omega
                  obtain ⟨h, hh0⟩ : ∃ h, h = fX g 1048576 A2 Vp t := ⟨_, rfl⟩
                  have hoff : ∀ y, h y ≠ g y → ∃ i, i < t ∧ A2 i = y := fun y hy => fX_off (by rw [← hh0]; exact hy)
                  have hR1 : Two w wr a 1048576 (k + i + t) h b 1048576 (k + t) g := by
                    have := HR.out
                    rw [← hh0] at this
                    exact this
                  have hdl2 : (dl h g 1048576).length ≤ t := dl_len hoff
                  have hdf := hR1.differ (by omega) most (by omega) (by omega)
                  have HR9 := Hid.mk hR1
                  clear hR1 hoff hh0 HR HVP
                  generalize hds : dl h g 1048576 = ds2 at *
                  have HDS := Hid.mk hds
                  clear hds
                  go_wp2_with fail
                  refine hdf.mono ?_
                  rintro e w8 ⟨v8, rfl, hW8, hb8⟩
                  have hR10 := HR9.out.later hb8
                  have hdf2 := hR10.differ (by omega) 100 (by omega) (by omega)
                  rw [HDS.out, List.take_of_length_le (show ds2.length ≤ (100 : Int).toNat by omega)] at hdf2
                  have HR10 := Hid.mk hR10.bel
                  obtain ⟨p8, cap8, rfl, -⟩ := hW8.form
                  have HW8 := Hid.mk hW8
                  clear hdf hW8 hb8 hR10 HR9
                  go_wp2_with fail
                  refine hdf2.mono ?_
                  rintro e w9 ⟨v9, rfl, hW9, hb9⟩
                  obtain ⟨p9, cap9, rfl, -⟩ := hW9.form
                  have HW8' := Hid.mk (HW8.out.below hb9)
                  have HW9 := Hid.mk hW9
                  have HB9 : Hid (Below w.heap.size w w9) := below_tr HR10.out hb9
                  clear hdf2 hW9 hb9 HW8 HR10
                  have hl1 : (ds2.take most.toNat).length = min most.toNat ds2.length := List.length_take
                  have HEQ : Hid (∀ s, s < (ds2.take most.toNat).length → (ds2.take most.toNat)[s]! = ds2[s]!) := by
                    show ∀ s, s < (ds2.take most.toNat).length → (ds2.take most.toNat)[s]! = ds2[s]!
                    intro s hs
                    rw [getElem!_pos _ s hs, getElem!_pos ds2 s (by omega), List.getElem_take]
                  generalize ds2.take most.toNat = ds1 at *
                  generalize hL1 : ds1.length = L1 at *
                  generalize hL2 : ds2.length = L2 at *
                  have HL1 := Hid.mk hL1
                  have HL2 := Hid.mk hL2
                  have hle : L1 ≤ L2 := by omega
                  clear hL1 hL2
                  have h3 : (most < 0 ∧ L1 = 0) ∨ most = (L1 : Int) ∨ ((L2 : Int) < most ∧ L1 = L2) := by omega
                  clear hl1 hmo1 hmo2
                  rcases h3 with ⟨h31, h32⟩ | h31 | ⟨h31, h32⟩
                  · subst h32
                    have z1 : ¬ ((L2 : Int) < most) := by omega
                    go_wp2
                    go_loopw [169] (fun s wr => s = .int .i64 0 ∧ wr = w9) (fun _ _ => 0)
                    case atStart => exact ⟨rfl, rfl⟩
                    case round =>
                      obtain ⟨rfl, rfl⟩ := hrel
                      go_wp2
                      go_ret
                      exact ⟨rfl, HB9.out⟩
                  · subst h31
                    have z1 : ¬ ((L2 : Int) < L1) := by omega
                    have z2 : ¬ (L2 < L1) := by omega
                    go_wp2
                    go_loopw [169] (fun s wr => ∃ q : Nat, q ≤ L1 ∧ s = .int .i64 q ∧ Below w9.heap.size w9 wr) (fun s _ => L1 - (intOf s).toNat)
                    case atStart => exact ⟨0, by omega, rfl, Below.refl _ _⟩
                    case round =>
                      obtain ⟨q, hq, rfl, hBq⟩ := hrel
                      have HBQ := Hid.mk hBq
                      clear hBq 
                      by_cases hlt5 : q < L1
                      · obtain ⟨g8, rfl, e8⟩ := (HW8'.out.below HBQ.out).at q (by rw [HL1.out]; exact hlt5)
                        obtain ⟨g9, rfl, e9⟩ := (HW9.out.below HBQ.out).at q (by rw [HL2.out]; omega)
                        rw [HEQ.out q (by first | exact hlt5 | (rw [HL1.out]; exact hlt5))] at e8
                        generalize ds2[q]! = y at *
                        have hqL2 : q < L2 := by omega
                        go_wp2
                        exact ⟨⟨q + 1, by omega, by go_num, HBQ.out⟩, by simp [intOf]; omega⟩
                      · obtain rfl : q = L1 := by omega
                        go_wp2
                        go_ret
                        exact ⟨rfl, below_tr HB9.out HBQ.out⟩
                  · subst h32
                    go_wp2
                    go_loopw [169] (fun s wr => ∃ q : Nat, q ≤ L1 ∧ s = .int .i64 q ∧ Below w9.heap.size w9 wr) (fun s _ => L1 - (intOf s).toNat)
                    case atStart => exact ⟨0, by omega, rfl, Below.refl _ _⟩
                    case round =>
                      obtain ⟨q, hq, rfl, hBq⟩ := hrel
                      have HBQ := Hid.mk hBq
                      clear hBq 
                      by_cases hlt5 : q < L1
                      · obtain ⟨g8, rfl, e8⟩ := (HW8'.out.below HBQ.out).at q (by rw [HL1.out]; exact hlt5)
                        obtain ⟨g9, rfl, e9⟩ := (HW9.out.below HBQ.out).at q (by rw [HL2.out]; omega)
                        rw [HEQ.out q (by first | exact hlt5 | (rw [HL1.out]; exact hlt5))] at e8
                        generalize ds2[q]! = y at *
                        have hqL2 : q < L1 := by omega
                        go_wp2
                        exact ⟨⟨q + 1, by omega, by go_num, HBQ.out⟩, by simp [intOf]; omega⟩
                      · obtain rfl : q = L1 := by omega
                        go_wp2
                        go_ret
                        exact ⟨rfl, below_tr HB9.out HBQ.out⟩
end Go.Proofs.Ytiedlkhbbnjkbaa.physDiffers
