/- PhysPlays: every play is the document's. -/
import Derived.Test.YtiedlkhbbnjkbaaPlays0
namespace Go.Proofs.Ytiedlkhbbnjkbaa.physPlays
open Go.RowKit Go.Maps

set_option maxRecDepth 1000000 in
set_option maxHeartbeats 16000000 in
theorem walk (S : Nat) (ad : Option Addr) (n cap : Nat) (K : Nat → Int) (A V : Nat → Nat) (hS : S < 18446744073709551616) (hn : n ≤ maxLen) (w : World) (ho : OpsAt w ad n K A V) :
    Calls Try.prog 3 #[.int .u64 S, .slice ad n cap] w fun e w' => e = .returned (.bool true) ∧ Below w.heap.size w w' := by
  have hn' : n < 9223372036854775808 := by unfold maxLen at hn; omega
  have HO := Hid.mk ho
  clear ho hn
  go_enter Try.func3, Try.ntmps3
  go_wp2_with fail
  refine (anchor_c w).mono ?_
  rintro e w1 ⟨rfl, hb1⟩
  have HB1 := Hid.mk hb1
  clear hb1
  by_cases h60 : 60 < n
  · go_wp2
    go_ret
    exact ⟨rfl, HB1.out⟩
  by_cases hr : rightS S
  rotate_left
  · have hnew := new_bad S hS hr w1
    have hri := rightF_c S hr w1
    clear hr
    go_wp2_with fail
    refine hnew.mono ?_
    rintro e w2 ⟨rfl, rfl⟩
    go_wp2_with fail
    refine hri.mono ?_
    rintro e w2 ⟨rfl, rfl⟩
    clear hnew hri
    go_wp2
    go_ret
    exact ⟨rfl, HB1.out⟩
  have hnew := new_ok S hr w1
  have hri := fun w => rightT_c S hr w
  clear hr
  go_wp2_with fail
  refine hnew.mono ?_
  rintro e w2 ⟨a0, rfl, hm, hb2⟩
  have HP0 := Hid.mk (play_new HB1.out hm hb2)
  clear hm hb2 hnew
  go_wp2_with fail
  refine (hri _).mono ?_
  rintro e w2' ⟨rfl, rfl⟩
  clear hri
  go_wp2
  generalize hxb : w2.heap.size = xb at *
  clear hxb
  go_loopw [5, 45] (fun s5 s45 wr => ∃ (k a : Nat) (f : Nat → Nat) (v : Value) (L : WL), k ≤ n ∧ s45 = .int .i64 k ∧ s5 = .pointer (some ⟨a, 0, none⟩) ∧ Play w wr xb a S k f v L ∧ Ref L f ∧ L.length ≤ k) (fun _ s45 _ => n - (intOf s45).toNat)
  case atStart => exact ⟨0, a0, _, _, _, by omega, rfl, rfl, HP0.out, Ref.nil, Nat.le_refl _⟩
  case round =>
    clear HP0
    obtain ⟨k, a, f, v, L, hk, rfl, rfl, hP, hRef, hLl⟩ := hrel
    by_cases hlt : k < n
    · obtain ⟨g, o, rfl, hg, q1, q2, q3⟩ := (HO.out.later hP.bel).cells k hlt
      have ha := HO.out.al k
      have hvv := HO.out.vl k
      generalize K k = Kk at *
      generalize A k = Ak at *
      generalize V k = Vk at *
      have hPa : Play w (wr.alloc (.cells #[.int .i64 Kk, .int .u64 (Ak : Nat), .int .u64 (Vk : Nat)] 34)) xb a S k f v L := hP.later ((Below.refl _ _).alloc (Nat.le_refl _) _)
      obtain ⟨p, cp, rfl⟩ := hP.form
      have hxlt := hP.xlt
      obtain ⟨c0, c1, -, -⟩ := row2_facts hP.row
      obtain ⟨b0, b1, -, -⟩ := row2_facts hPa.row
      clear hP
      by_cases hK1 : Kk = 1
      · subst hK1
        have hw := hPa.rwrite (by omega) Ak Vk
        have hrf := ref_write hRef S Ak Vk
        have hln := len_write L S Ak Vk
        generalize (if errA S Ak = 0 then outW Ak Vk L else L) = L' at *
        go_wp2_with fail
        refine hw.mono ?_
        rintro e w4 ⟨v', rfl, hb4, hP4⟩
        obtain ⟨p4, cp4, rfl⟩ := hP4.form
        have e0 := row2_facts ((hb4.block xb hPa.xlt).trans hPa.row)
        obtain ⟨c0, c1, f0, f1⟩ := e0
        have hne : wr.heap.size ≠ xb := by omega
        have hob : w4.heap[wr.heap.size]? = some (.cells #[.int .i64 1, .int .u64 (Ak : Nat), .int .u64 (Vk : Nat)] 34) := (hb4.block _ (by simp)).trans (heap_alloc_new _ _)
        have hob2 : ((w4.setCell ⟨xb, 0, none⟩ (.int .u64 (S : Nat))).setCell ⟨xb, 1, none⟩ (.slice p4 L'.length cp4)).heap[wr.heap.size]? = some (.cells #[.int .i64 1, .int .u64 (Ak : Nat), .int .u64 (Vk : Nat)] 34) := ((turn_set2 w4 xb _ _).block _ (Array.getElem?_eq_some_iff.1 hob).1 (fun c => hne c)).trans hob
        have d1 := cell_in hob2 1
        have d2 := cell_in hob2 2
        have e1 := cell_in hob 1
        have e2 := cell_in hob 2
        have hw2 := hP4.write (by omega) Ak Vk ha hvv
        generalize wrF f S Ak Vk = f' at *
        generalize errA S Ak = E at *
        clear hw hP4 hb4 q1 q2 q3 hob hob2 hPa hRef b0 b1
        go_wp2_with fail
        refine hw2.mono ?_
        rintro e w5 ⟨rfl, hP5⟩
        clear hw2 c0 c1 f0 f1 d1 d2 e1 e2
        obtain ⟨c0, c1, -, -⟩ := row2_facts hP5.row
        have hsm := (hP5.mono (m := k + 1) (by omega)).same hrf (by omega) (by omega)
        have HRF := Hid.mk hrf
        clear hP5 hrf
        go_wp2_with fail
        refine hsm.mono ?_
        rintro e w9 ⟨rfl, hP9⟩
        have HP9 := Hid.mk hP9
        clear hP9 hsm c0 c1
        go_wp2
        exact ⟨⟨k + 1, a, _, _, _, by omega, by go_num, rfl, HP9.out, HRF.out, by omega⟩, by simp [intOf]; omega⟩
      by_cases hK2 : Kk = 2
      · subst hK2
        have hrd := hPa.read Ak ha
        go_wp2_with fail
        refine hrd.mono ?_
        rintro e w4 ⟨rfl, hb4⟩
        have hP4 := hPa.later hb4
        obtain ⟨c0, c1, -, -⟩ := row2_facts hP4.row
        have hob : w4.heap[wr.heap.size]? = some (.cells #[.int .i64 2, .int .u64 (Ak : Nat), .int .u64 (Vk : Nat)] 34) := (hb4.block _ (by simp)).trans (heap_alloc_new _ _)
        have e1 := cell_in hob 1
        have hrr := hP4.rread hRef (by omega) Ak
        clear hrd hb4 q1 q2 q3 hob hPa b0 b1
        go_wp2_with fail
        refine hrr.mono ?_
        rintro e w5 ⟨rfl, hb5⟩
        have hP5 := hP4.later hb5
        clear hrr hP4 hb5 c0 c1 e1
        generalize f Ak = F at *
        generalize errA S Ak = E at *
        obtain ⟨c0, c1, -, -⟩ := row2_facts hP5.row
        have hsm := (hP5.mono (m := k + 1) (by omega)).same hRef (by omega) (by omega)
        have HRF := Hid.mk hRef
        clear hP5 hRef
        go_wp2_with fail
        refine hsm.mono ?_
        rintro e w9 ⟨rfl, hP9⟩
        have HP9 := Hid.mk hP9
        clear hP9 hsm c0 c1
        go_wp2
        exact ⟨⟨k + 1, a, _, _, _, by omega, by go_num, rfl, HP9.out, HRF.out, by omega⟩, by simp [intOf]; omega⟩
      by_cases hK3 : Kk = 3
      · subst hK3
        have hw := hPa.rclear (by omega) Ak Vk ha hvv
        have hrf := ref_clear hRef S Ak Vk
        have hln := len_clear L S Ak Vk
        generalize (if errC S Ak Vk = 0 then SC Ak Vk L L.length else L) = L' at *
        go_wp2_with fail
        refine hw.mono ?_
        rintro e w4 ⟨v', rfl, hb4, hP4⟩
        obtain ⟨p4, cp4, rfl⟩ := hP4.form
        have e0 := row2_facts ((hb4.block xb hPa.xlt).trans hPa.row)
        obtain ⟨c0, c1, f0, f1⟩ := e0
        have hne : wr.heap.size ≠ xb := by omega
        have hob : w4.heap[wr.heap.size]? = some (.cells #[.int .i64 3, .int .u64 (Ak : Nat), .int .u64 (Vk : Nat)] 34) := (hb4.block _ (by simp)).trans (heap_alloc_new _ _)
        have hob2 : ((w4.setCell ⟨xb, 0, none⟩ (.int .u64 (S : Nat))).setCell ⟨xb, 1, none⟩ (.slice p4 L'.length cp4)).heap[wr.heap.size]? = some (.cells #[.int .i64 3, .int .u64 (Ak : Nat), .int .u64 (Vk : Nat)] 34) := ((turn_set2 w4 xb _ _).block _ (Array.getElem?_eq_some_iff.1 hob).1 (fun c => hne c)).trans hob
        have d1 := cell_in hob2 1
        have d2 := cell_in hob2 2
        have e1 := cell_in hob 1
        have e2 := cell_in hob 2
        have hw2 := hP4.clear (by omega) Ak Vk ha hvv
        generalize clrF f S Ak Vk = f' at *
        generalize errC S Ak Vk = E at *
        clear hw hP4 hb4 q1 q2 q3 hob hob2 hPa hRef b0 b1
        go_wp2_with fail
        refine hw2.mono ?_
        rintro e w5 ⟨rfl, hP5⟩
        clear hw2 c0 c1 f0 f1 d1 d2 e1 e2
        obtain ⟨c0, c1, -, -⟩ := row2_facts hP5.row
        have hsm := (hP5.mono (m := k + 1) (by omega)).same hrf (by omega) (by omega)
        have HRF := Hid.mk hrf
        clear hP5 hrf
        go_wp2_with fail
        refine hsm.mono ?_
        rintro e w9 ⟨rfl, hP9⟩
        have HP9 := Hid.mk hP9
        clear hP9 hsm c0 c1
        go_wp2
        exact ⟨⟨k + 1, a, _, _, _, by omega, by go_num, rfl, HP9.out, HRF.out, by omega⟩, by simp [intOf]; omega⟩
      by_cases hK4 : Kk = 4
      · subst hK4
        have hcp := hPa.copy (by omega)
        go_wp2_with fail
        refine hcp.mono ?_
        rintro e w4 ⟨c, rfl, hwr⟩
        clear hcp q1 q2 q3 hPa b0 b1 c0 c1
        go_wp2_with fail
        refine hwr.mono ?_
        rintro e w5 ⟨⟨z, rfl⟩, hP5⟩
        clear hwr
        obtain ⟨c0, c1, -, -⟩ := row2_facts hP5.row
        have hsm := (hP5.mono (m := k + 1) (by omega)).same hRef (by omega) (by omega)
        have HRF := Hid.mk hRef
        clear hP5 hRef
        go_wp2_with fail
        refine hsm.mono ?_
        rintro e w9 ⟨rfl, hP9⟩
        have HP9 := Hid.mk hP9
        clear hP9 hsm c0 c1
        go_wp2
        exact ⟨⟨k + 1, c, _, _, _, by omega, by go_num, rfl, HP9.out, HRF.out, by omega⟩, by simp [intOf]; omega⟩
      have hsm := (hPa.mono (m := k + 1) (by omega)).same hRef (by omega) (by omega)
      have HRF := Hid.mk hRef
      clear hPa hRef
      go_wp2_with fail
      refine hsm.mono ?_
      rintro e w9 ⟨rfl, hP9⟩
      have HP9 := Hid.mk hP9
      clear hP9 hsm c0 c1
      go_wp2
      exact ⟨⟨k + 1, a, _, _, _, by omega, by go_num, rfl, HP9.out, HRF.out, by omega⟩, by simp [intOf]; omega⟩
    · obtain rfl : k = n := by omega
      have HBB := Hid.mk hP.bel
      clear hP hRef
      go_wp2
      go_ret
      exact ⟨rfl, HBB.out⟩
end Go.Proofs.Ytiedlkhbbnjkbaa.physPlays
