/- CapShows (P11.5): for every capability the law returns true: any one that is right has the document's text; others have none. No condition beyond the row's own. -/
import Derived.Test.YtkedoajkdobjdaaDoorCapR
import Derived.Test.YtkedoajkdobjdaaDoorCapFrame
set_option linter.unusedVariables false
namespace Go.Proofs.YtkedoajkdobjdaaDoor.capShows
open Go.ChangeShapes Go.WideShapes Go.ChangeAt Go.RowKit Go.Lib

def db64 : List Int := [0, 1, 56, 2, 57, 49, 28, 3, 61, 58, 42, 50, 38, 29, 17, 4, 62, 47, 59, 36, 45, 43, 51, 22, 53, 39, 33, 30, 24, 18, 12, 5, 63, 55, 48, 27, 60, 41, 37, 16, 46, 35, 44, 21, 52, 32, 23, 11, 54, 26, 40, 15, 34, 20, 31, 10, 25, 14, 19, 9, 13, 8, 7, 6]
theorem db_eq : (Rows.laid_math_bits_deBruijn64tab : DataW Unit) = Lib.tabData .u8 db64 := by kernel_rfl
theorem tz_of_reads {W : World} (h : VarReads Tryd.prog W "math/bits.deBruijn64tab" (Lib.tabData .u8 db64)) : Tz W := by
  obtain ⟨g, t, cs, fuel, p, hg, hty, hvar, hd⟩ := h
  obtain rfl := Option.some.inj ((show Tryd.prog.globalNamed "math/bits.deBruijn64tab" = some 9 by kernel_rfl).symm.trans hg)
  obtain rfl := Option.some.inj ((show (Tryd.prog.globals[9]?).map (·.type) = some 113 by kernel_rfl).symm.trans hty)
  have hcs := cells_of_tab Tryd.underlying113 Tryd.underlying5 (by kernel_rfl) (by kernel_rfl) hd
  unfold Tz
  rw [World.var?_cell hg hvar 15, ← Array.getElem?_toList, hcs]
  rfl
set_option maxHeartbeats 4000000 in
theorem showC_bad (k : Int) (a : Nat) (b r g s : Int) (m : Nat) (ha : a < 18446744073709551616) (hm : m < 18446744073709551616) (hc : cB k a b r g s m = false) (w : World) :
    Calls Tryd.prog 30 #[.agg #[.int .i64 k, .int .u64 (a : Nat), .int .i64 b, .int .i64 r, .int .i64 g, .int .i64 s, .int .u64 (m : Nat)]] w fun e w' => e = .returned (.tuple #[.string ⟨#[]⟩, .int .i64 10]) ∧ Below w.heap.size w w' := by
  have cR := fun w1 => cright_any k a b r g s m ha hm w1
  rw [hc] at cR
  clear hc
  go_enter Tryd.func30, Tryd.ntmps30
  go_wp2_with fail
  have gC := heap_alloc_new w (.cells #[.int .i64 k, .int .u64 (a : Nat), .int .i64 b, .int .i64 r, .int .i64 g, .int .i64 s, .int .u64 (m : Nat)] 24)
  have hB := below_new w (.cells #[.int .i64 k, .int .u64 (a : Nat), .int .i64 b, .int .i64 r, .int .i64 g, .int .i64 s, .int .u64 (m : Nat)] 24)
  generalize w.alloc (.cells #[.int .i64 k, .int .u64 (a : Nat), .int .i64 b, .int .i64 r, .int .i64 g, .int .i64 s, .int .u64 (m : Nat)] 24) = W0 at *
  obtain ⟨c0, c1, c2, c3, c4, c5, c6⟩ := cells7 gC
  have cp0 := fun o => cell_alloc (o := o) c0
  have cp1 := fun o => cell_alloc (o := o) c1
  have cp2 := fun o => cell_alloc (o := o) c2
  have cp3 := fun o => cell_alloc (o := o) c3
  have cp4 := fun o => cell_alloc (o := o) c4
  have cp5 := fun o => cell_alloc (o := o) c5
  have cp6 := fun o => cell_alloc (o := o) c6
  refine (cR _).mono ?_
  clear c0 cp0 c1 cp1 c2 cp2 c3 cp3 c4 cp4 c5 cp5 c6 cp6
  rintro e w1 ⟨rfl, hb⟩
  replace gC := block_later hb gC
  replace hB := below_tr hB hb
  clear hb
  obtain ⟨c0, c1, c2, c3, c4, c5, c6⟩ := cells7 gC
  have cp0 := fun o => cell_alloc (o := o) c0
  have cp1 := fun o => cell_alloc (o := o) c1
  have cp2 := fun o => cell_alloc (o := o) c2
  have cp3 := fun o => cell_alloc (o := o) c3
  have cp4 := fun o => cell_alloc (o := o) c4
  have cp5 := fun o => cell_alloc (o := o) c5
  have cp6 := fun o => cell_alloc (o := o) c6
  go_wp2
  go_ret2
  first
    | exact ⟨rfl, hB⟩
    | exact ⟨rfl, hB.alloc hB.size _⟩

set_option maxRecDepth 100000 in
set_option maxHeartbeats 16000000 in
theorem walk_ok {k a b r g s m : Nat} (hR : Rt k a b r g s m) (hc : cB k a b r g s m = true) (hk : k ≤ 10) (w : World) (hP : Prts w) (hN : Nms w) (hT : Tz w) :
    Calls Tryd.prog 9 #[.agg #[.int .i64 (k : Nat), .int .u64 (a : Nat), .int .i64 (b : Nat), .int .i64 (r : Nat), .int .i64 (g : Nat), .int .i64 (s : Nat), .int .u64 (m : Nat)]] w fun e w' => e = .returned (.bool true) ∧ Below w.heap.size w w' := by
  have cA := fun w1 h1 => anchorC_any w1 h1
  have cS := fun w1 h1 h2 => showC_any hR hc hk w1 h1 h2
  have cD := fun w1 => dright_any k a b r g s m (by have := hR.qa; omega) hR.qm w1
  rw [← right_same, hc] at cD
  have cN := fun w1 h1 => name_in k hk w1 h1
  obtain ⟨q1, q2, q3, q4, q5, q6, q7, q8⟩ := hR
  have hns : (nmV k).data.toList.length ≤ 8 := by
    have h2 : ∀ i : Fin 11, (nmL.getD i.val ⟨#[]⟩).data.toList.length ≤ 8 := by decide
    exact h2 ⟨k, by omega⟩
  have e2 : IntKind.u64.wrap (b : Int) = (b : Int) := by rw [IntKind.wrap_u64]; omega
  have e3 : IntKind.u64.wrap (r : Int) = (r : Int) := by rw [IntKind.wrap_u64]; omega
  have e4 : IntKind.u64.wrap (g : Int) = (g : Int) := by rw [IntKind.wrap_u64]; omega
  have e5 : IntKind.u64.wrap (s : Int) = (s : Int) := by rw [IntKind.wrap_u64]; omega
  have HL := Hid.mk (fun j => shS_len (nmV k).data.toList a b r g s m j)
  have HB : Hid (a < 18446744073709551616 ∧ b < 18446744073709551616 ∧ r < 18446744073709551616 ∧ g < 18446744073709551616 ∧ s < 18446744073709551616 ∧ m < 18446744073709551616) := Hid.mk ⟨by omega, by omega, by omega, by omega, by omega, by omega⟩
  have HNS := Hid.mk hns
  have HS0 : Hid (shS (nmV k).data.toList a b r g s m 0 = (nmV k).data.toList) := Hid.mk rfl
  have HS1 : Hid (shS (nmV k).data.toList a b r g s m 1 = shS (nmV k).data.toList a b r g s m 0 ++ pcL (nmJ 0) a) := Hid.mk rfl
  have HS2 : Hid (shS (nmV k).data.toList a b r g s m 2 = shS (nmV k).data.toList a b r g s m 1 ++ pcL (nmJ 1) b) := Hid.mk rfl
  have HS3 : Hid (shS (nmV k).data.toList a b r g s m 3 = shS (nmV k).data.toList a b r g s m 2 ++ pcL (nmJ 2) r) := Hid.mk rfl
  have HS4 : Hid (shS (nmV k).data.toList a b r g s m 4 = shS (nmV k).data.toList a b r g s m 3 ++ pcL (nmJ 3) g) := Hid.mk rfl
  have HS5 : Hid (shS (nmV k).data.toList a b r g s m 5 = shS (nmV k).data.toList a b r g s m 4 ++ pcL (nmJ 4) s) := Hid.mk rfl
  have HS6 : Hid (shS (nmV k).data.toList a b r g s m 6 = shS (nmV k).data.toList a b r g s m 5 ++ pcL (nmJ 5) m) := Hid.mk rfl
  clear q1 q2 q3 q4 q5 q6 q7 q8 hc hk hns
  generalize nmV k = NM at *
  generalize hl0 : shS NM.data.toList a b r g s m 0 = l0 at *
  generalize hl1 : shS NM.data.toList a b r g s m 1 = l1 at *
  generalize hl2 : shS NM.data.toList a b r g s m 2 = l2 at *
  generalize hl3 : shS NM.data.toList a b r g s m 3 = l3 at *
  generalize hl4 : shS NM.data.toList a b r g s m 4 = l4 at *
  generalize hl5 : shS NM.data.toList a b r g s m 5 = l5 at *
  generalize hl6 : shS NM.data.toList a b r g s m 6 = l6 at *
  have HM : Hid (l0.length ≤ 200 ∧ l1.length ≤ 200 ∧ l2.length ≤ 200 ∧ l3.length ≤ 200 ∧ l4.length ≤ 200 ∧ l5.length ≤ 200 ∧ l6.length ≤ 200) := Hid.mk (by
    have := HNS.out
    refine ⟨?_, ?_, ?_, ?_, ?_, ?_, ?_⟩
    · have h := HL.out 0; rw [hl0] at h; omega
    · have h := HL.out 1; rw [hl1] at h; omega
    · have h := HL.out 2; rw [hl2] at h; omega
    · have h := HL.out 3; rw [hl3] at h; omega
    · have h := HL.out 4; rw [hl4] at h; omega
    · have h := HL.out 5; rw [hl5] at h; omega
    · have h := HL.out 6; rw [hl6] at h; omega)
  clear hl0 hl1 hl2 hl3 hl4 hl5 hl6
  go_enter Tryd.func9, Tryd.ntmps9
  go_wp2_with fail
  have gC := heap_alloc_new w (.cells #[.int .i64 (k : Nat), .int .u64 (a : Nat), .int .i64 (b : Nat), .int .i64 (r : Nat), .int .i64 (g : Nat), .int .i64 (s : Nat), .int .u64 (m : Nat)] 24)
  have hB := below_new w (.cells #[.int .i64 (k : Nat), .int .u64 (a : Nat), .int .i64 (b : Nat), .int .i64 (r : Nat), .int .i64 (g : Nat), .int .i64 (s : Nat), .int .u64 (m : Nat)] 24)
  generalize w.alloc (.cells #[.int .i64 (k : Nat), .int .u64 (a : Nat), .int .i64 (b : Nat), .int .i64 (r : Nat), .int .i64 (g : Nat), .int .i64 (s : Nat), .int .u64 (m : Nat)] 24) = W0 at *
  obtain ⟨c0, c1, c2, c3, c4, c5, c6⟩ := cells7 gC
  have cp0 := fun o => cell_alloc (o := o) c0
  have cp1 := fun o => cell_alloc (o := o) c1
  have cp2 := fun o => cell_alloc (o := o) c2
  have cp3 := fun o => cell_alloc (o := o) c3
  have cp4 := fun o => cell_alloc (o := o) c4
  have cp5 := fun o => cell_alloc (o := o) c5
  have cp6 := fun o => cell_alloc (o := o) c6
  refine (cA _ (hP.later hB)).mono ?_
  clear c0 cp0 c1 cp1 c2 cp2 c3 cp3 c4 cp4 c5 cp5 c6 cp6
  rintro e w1 ⟨rfl, hb⟩
  replace gC := block_later hb gC
  replace hB := below_tr hB hb
  clear hb
  obtain ⟨c0, c1, c2, c3, c4, c5, c6⟩ := cells7 gC
  have cp0 := fun o => cell_alloc (o := o) c0
  have cp1 := fun o => cell_alloc (o := o) c1
  have cp2 := fun o => cell_alloc (o := o) c2
  have cp3 := fun o => cell_alloc (o := o) c3
  have cp4 := fun o => cell_alloc (o := o) c4
  have cp5 := fun o => cell_alloc (o := o) c5
  have cp6 := fun o => cell_alloc (o := o) c6
  go_wp2_with fail
  refine (cS _ (hN.later hB) (hT.later hB)).mono ?_
  clear c0 cp0 c1 cp1 c2 cp2 c3 cp3 c4 cp4 c5 cp5 c6 cp6
  rintro e w2 ⟨rfl, hb⟩
  replace gC := block_later hb gC
  replace hB := below_tr hB hb
  clear hb
  obtain ⟨c0, c1, c2, c3, c4, c5, c6⟩ := cells7 gC
  have cp0 := fun o => cell_alloc (o := o) c0
  have cp1 := fun o => cell_alloc (o := o) c1
  have cp2 := fun o => cell_alloc (o := o) c2
  have cp3 := fun o => cell_alloc (o := o) c3
  have cp4 := fun o => cell_alloc (o := o) c4
  have cp5 := fun o => cell_alloc (o := o) c5
  have cp6 := fun o => cell_alloc (o := o) c6
  go_wp2_with fail
  refine (cD _).mono ?_
  clear c0 cp0 c1 cp1 c2 cp2 c3 cp3 c4 cp4 c5 cp5 c6 cp6
  rintro e w3 ⟨rfl, hb⟩
  replace gC := block_later hb gC
  replace hB := below_tr hB hb
  clear hb
  obtain ⟨c0, c1, c2, c3, c4, c5, c6⟩ := cells7 gC
  have cp0 := fun o => cell_alloc (o := o) c0
  have cp1 := fun o => cell_alloc (o := o) c1
  have cp2 := fun o => cell_alloc (o := o) c2
  have cp3 := fun o => cell_alloc (o := o) c3
  have cp4 := fun o => cell_alloc (o := o) c4
  have cp5 := fun o => cell_alloc (o := o) c5
  have cp6 := fun o => cell_alloc (o := o) c6
  go_wp2_with fail
  refine (cN _ (hN.later hB)).mono ?_
  rintro e w4 ⟨rfl, rfl⟩
  have HQ : Hid (NM.data.toList = l0) := Hid.mk HS0.out.symm
  replace HS0 := Hid.mk trivial
  generalize hQ : NM = Q at *
  go_upto_if 27 with fail
  obtain ⟨D0, hD⟩ : ∃ D, D = decide (0 < a) := ⟨_, rfl⟩
  rw [← hD]
  replace hD := Hid.mk hD
  go_cut [5] (fun t wc => ∃ Q : ByteArray, t = .string Q ∧ Q.data.toList = l1 ∧ Below w.heap.size w wc ∧ wc.heap[w.heap.size]? = some (.cells #[.int .i64 (k : Nat), .int .u64 (a : Nat), .int .i64 (b : Nat), .int .i64 (r : Nat), .int .i64 (g : Nat), .int .i64 (s : Nat), .int .u64 (m : Nat)] 24 (0, 0)))
  case first =>
    cases D0
    · have hz : a = 0 := by have := of_decide_eq_false hD.out.symm; omega
      have HZ : Hid (l1 = l0) := by show _ = _; rw [HS1.out, show pcL (nmJ 0) a = [] by unfold pcL; rw [if_pos hz], List.append_nil]
      clear hz
      go_wp2
      go_meet
      exact ⟨_, rfl, by rw [HZ.out]; exact HQ.out, hB, gC⟩
    · have hz : ¬ a = 0 := by have := of_decide_eq_true hD.out.symm; omega
      have HZ : Hid (l1 = l0 ++ ([32, 97, 116, 61] ++ (showB a).data.toList)) := by show _ = _; rw [HS1.out, show pcL (nmJ 0) a = [32, 97, 116, 61] ++ (showB a).data.toList by unfold pcL; rw [if_neg hz]; rfl]
      clear hz
      go_wp2_with fail
      refine (show_any a HB.out.1 _ (hT.later hB)).mono ?_
      rintro e w9 ⟨rfl, hb⟩
      have gC2 := block_later hb gC
      have hB2 := below_tr hB hb
      have hs1 := showB_size a
      have hs2 : Q.size ≤ 200 := by rw [size_list, HQ.out]; exact HM.out.1
      generalize hX : showB a = X at *
      have t1 : ¬ 9223372036854775807 < 4 + X.size := by omega
      have t2 : ¬ 9223372036854775807 < Q.size + (4 + X.size) := by omega
      go_wp2
      go_meet
      exact ⟨_, rfl, by rw [HZ.out, ← HQ.out]; simp [ByteArray.data_append], hB2, gC2⟩
  case rest =>
  obtain ⟨Q1, rfl, hq, hB', gC'⟩ := hcut
  clear hD D0 HQ hB gC c0 c1 c2 c3 c4 c5 c6 cp0 cp1 cp2 cp3 cp4 cp5 cp6 HS1
  have HQ := Hid.mk hq
  have hB := hB'
  have gC := gC'
  clear hq hB' gC'
  obtain ⟨c0, c1, c2, c3, c4, c5, c6⟩ := cells7 gC
  have cp0 := c0
  have cp1 := c0
  have cp2 := c0
  have cp3 := c0
  have cp4 := c0
  have cp5 := c0
  have cp6 := c0
  generalize hQ1 : Q1 = Q at *
  go_upto_if 36 with fail
  obtain ⟨D1, hD⟩ : ∃ D, D = decide (0 < b) := ⟨_, rfl⟩
  rw [← hD]
  replace hD := Hid.mk hD
  go_cut [5] (fun t wc => ∃ Q : ByteArray, t = .string Q ∧ Q.data.toList = l2 ∧ Below w.heap.size w wc ∧ wc.heap[w.heap.size]? = some (.cells #[.int .i64 (k : Nat), .int .u64 (a : Nat), .int .i64 (b : Nat), .int .i64 (r : Nat), .int .i64 (g : Nat), .int .i64 (s : Nat), .int .u64 (m : Nat)] 24 (0, 0)))
  case first =>
    cases D1
    · have hz : b = 0 := by have := of_decide_eq_false hD.out.symm; omega
      have HZ : Hid (l2 = l1) := by show _ = _; rw [HS2.out, show pcL (nmJ 1) b = [] by unfold pcL; rw [if_pos hz], List.append_nil]
      clear hz
      go_wp2
      go_meet
      exact ⟨_, rfl, by rw [HZ.out]; exact HQ.out, hB, gC⟩
    · have hz : ¬ b = 0 := by have := of_decide_eq_true hD.out.symm; omega
      have HZ : Hid (l2 = l1 ++ ([32, 98, 105, 116, 115, 61] ++ (showB b).data.toList)) := by show _ = _; rw [HS2.out, show pcL (nmJ 1) b = [32, 98, 105, 116, 115, 61] ++ (showB b).data.toList by unfold pcL; rw [if_neg hz]; rfl]
      clear hz
      go_wp2_with fail
      refine (show_any b HB.out.2.1 _ (hT.later hB)).mono ?_
      rintro e w9 ⟨rfl, hb⟩
      have gC2 := block_later hb gC
      have hB2 := below_tr hB hb
      have hs1 := showB_size b
      have hs2 : Q.size ≤ 200 := by rw [size_list, HQ.out]; exact HM.out.2.1
      generalize hX : showB b = X at *
      have t1 : ¬ 9223372036854775807 < 6 + X.size := by omega
      have t2 : ¬ 9223372036854775807 < Q.size + (6 + X.size) := by omega
      go_wp2
      go_meet
      exact ⟨_, rfl, by rw [HZ.out, ← HQ.out]; simp [ByteArray.data_append], hB2, gC2⟩
  case rest =>
  obtain ⟨Q2, rfl, hq, hB', gC'⟩ := hcut
  clear hD D1 HQ hB gC c0 c1 c2 c3 c4 c5 c6 cp0 cp1 cp2 cp3 cp4 cp5 cp6 HS2
  have HQ := Hid.mk hq
  have hB := hB'
  have gC := gC'
  clear hq hB' gC'
  obtain ⟨c0, c1, c2, c3, c4, c5, c6⟩ := cells7 gC
  have cp0 := c0
  have cp1 := c0
  have cp2 := c0
  have cp3 := c0
  have cp4 := c0
  have cp5 := c0
  have cp6 := c0
  generalize hQ2 : Q2 = Q at *
  go_upto_if 46 with fail
  obtain ⟨D2, hD⟩ : ∃ D, D = decide (0 < r) := ⟨_, rfl⟩
  rw [← hD]
  replace hD := Hid.mk hD
  go_cut [5] (fun t wc => ∃ Q : ByteArray, t = .string Q ∧ Q.data.toList = l3 ∧ Below w.heap.size w wc ∧ wc.heap[w.heap.size]? = some (.cells #[.int .i64 (k : Nat), .int .u64 (a : Nat), .int .i64 (b : Nat), .int .i64 (r : Nat), .int .i64 (g : Nat), .int .i64 (s : Nat), .int .u64 (m : Nat)] 24 (0, 0)))
  case first =>
    cases D2
    · have hz : r = 0 := by have := of_decide_eq_false hD.out.symm; omega
      have HZ : Hid (l3 = l2) := by show _ = _; rw [HS3.out, show pcL (nmJ 2) r = [] by unfold pcL; rw [if_pos hz], List.append_nil]
      clear hz
      go_wp2
      go_meet
      exact ⟨_, rfl, by rw [HZ.out]; exact HQ.out, hB, gC⟩
    · have hz : ¬ r = 0 := by have := of_decide_eq_true hD.out.symm; omega
      have HZ : Hid (l3 = l2 ++ ([32, 114, 105, 103, 104, 116, 115, 61] ++ (showB r).data.toList)) := by show _ = _; rw [HS3.out, show pcL (nmJ 2) r = [32, 114, 105, 103, 104, 116, 115, 61] ++ (showB r).data.toList by unfold pcL; rw [if_neg hz]; rfl]
      clear hz
      go_wp2_with fail
      refine (show_any r HB.out.2.2.1 _ (hT.later hB)).mono ?_
      rintro e w9 ⟨rfl, hb⟩
      have gC2 := block_later hb gC
      have hB2 := below_tr hB hb
      have hs1 := showB_size r
      have hs2 : Q.size ≤ 200 := by rw [size_list, HQ.out]; exact HM.out.2.2.1
      generalize hX : showB r = X at *
      have t1 : ¬ 9223372036854775807 < 8 + X.size := by omega
      have t2 : ¬ 9223372036854775807 < Q.size + (8 + X.size) := by omega
      go_wp2
      go_meet
      exact ⟨_, rfl, by rw [HZ.out, ← HQ.out]; simp [ByteArray.data_append], hB2, gC2⟩
  case rest =>
  obtain ⟨Q3, rfl, hq, hB', gC'⟩ := hcut
  clear hD D2 HQ hB gC c0 c1 c2 c3 c4 c5 c6 cp0 cp1 cp2 cp3 cp4 cp5 cp6 HS3
  have HQ := Hid.mk hq
  have hB := hB'
  have gC := gC'
  clear hq hB' gC'
  obtain ⟨c0, c1, c2, c3, c4, c5, c6⟩ := cells7 gC
  have cp0 := c0
  have cp1 := c0
  have cp2 := c0
  have cp3 := c0
  have cp4 := c0
  have cp5 := c0
  have cp6 := c0
  generalize hQ3 : Q3 = Q at *
  go_upto_if 56 with fail
  obtain ⟨D3, hD⟩ : ∃ D, D = decide (0 < g) := ⟨_, rfl⟩
  rw [← hD]
  replace hD := Hid.mk hD
  go_cut [5] (fun t wc => ∃ Q : ByteArray, t = .string Q ∧ Q.data.toList = l4 ∧ Below w.heap.size w wc ∧ wc.heap[w.heap.size]? = some (.cells #[.int .i64 (k : Nat), .int .u64 (a : Nat), .int .i64 (b : Nat), .int .i64 (r : Nat), .int .i64 (g : Nat), .int .i64 (s : Nat), .int .u64 (m : Nat)] 24 (0, 0)))
  case first =>
    cases D3
    · have hz : g = 0 := by have := of_decide_eq_false hD.out.symm; omega
      have HZ : Hid (l4 = l3) := by show _ = _; rw [HS4.out, show pcL (nmJ 3) g = [] by unfold pcL; rw [if_pos hz], List.append_nil]
      clear hz
      go_wp2
      go_meet
      exact ⟨_, rfl, by rw [HZ.out]; exact HQ.out, hB, gC⟩
    · have hz : ¬ g = 0 := by have := of_decide_eq_true hD.out.symm; omega
      have HZ : Hid (l4 = l3 ++ ([32, 103, 117, 97, 114, 100, 61] ++ (showB g).data.toList)) := by show _ = _; rw [HS4.out, show pcL (nmJ 3) g = [32, 103, 117, 97, 114, 100, 61] ++ (showB g).data.toList by unfold pcL; rw [if_neg hz]; rfl]
      clear hz
      go_wp2_with fail
      refine (show_any g HB.out.2.2.2.1 _ (hT.later hB)).mono ?_
      rintro e w9 ⟨rfl, hb⟩
      have gC2 := block_later hb gC
      have hB2 := below_tr hB hb
      have hs1 := showB_size g
      have hs2 : Q.size ≤ 200 := by rw [size_list, HQ.out]; exact HM.out.2.2.2.1
      generalize hX : showB g = X at *
      have t1 : ¬ 9223372036854775807 < 7 + X.size := by omega
      have t2 : ¬ 9223372036854775807 < Q.size + (7 + X.size) := by omega
      go_wp2
      go_meet
      exact ⟨_, rfl, by rw [HZ.out, ← HQ.out]; simp [ByteArray.data_append], hB2, gC2⟩
  case rest =>
  obtain ⟨Q4, rfl, hq, hB', gC'⟩ := hcut
  clear hD D3 HQ hB gC c0 c1 c2 c3 c4 c5 c6 cp0 cp1 cp2 cp3 cp4 cp5 cp6 HS4
  have HQ := Hid.mk hq
  have hB := hB'
  have gC := gC'
  clear hq hB' gC'
  obtain ⟨c0, c1, c2, c3, c4, c5, c6⟩ := cells7 gC
  have cp0 := c0
  have cp1 := c0
  have cp2 := c0
  have cp3 := c0
  have cp4 := c0
  have cp5 := c0
  have cp6 := c0
  generalize hQ4 : Q4 = Q at *
  go_upto_if 66 with fail
  obtain ⟨D4, hD⟩ : ∃ D, D = decide (0 < s) := ⟨_, rfl⟩
  rw [← hD]
  replace hD := Hid.mk hD
  go_cut [5] (fun t wc => ∃ Q : ByteArray, t = .string Q ∧ Q.data.toList = l5 ∧ Below w.heap.size w wc ∧ wc.heap[w.heap.size]? = some (.cells #[.int .i64 (k : Nat), .int .u64 (a : Nat), .int .i64 (b : Nat), .int .i64 (r : Nat), .int .i64 (g : Nat), .int .i64 (s : Nat), .int .u64 (m : Nat)] 24 (0, 0)))
  case first =>
    cases D4
    · have hz : s = 0 := by have := of_decide_eq_false hD.out.symm; omega
      have HZ : Hid (l5 = l4) := by show _ = _; rw [HS5.out, show pcL (nmJ 4) s = [] by unfold pcL; rw [if_pos hz], List.append_nil]
      clear hz
      go_wp2
      go_meet
      exact ⟨_, rfl, by rw [HZ.out]; exact HQ.out, hB, gC⟩
    · have hz : ¬ s = 0 := by have := of_decide_eq_true hD.out.symm; omega
      have HZ : Hid (l5 = l4 ++ ([32, 97, 115, 105, 100, 61] ++ (showB s).data.toList)) := by show _ = _; rw [HS5.out, show pcL (nmJ 4) s = [32, 97, 115, 105, 100, 61] ++ (showB s).data.toList by unfold pcL; rw [if_neg hz]; rfl]
      clear hz
      go_wp2_with fail
      refine (show_any s HB.out.2.2.2.2.1 _ (hT.later hB)).mono ?_
      rintro e w9 ⟨rfl, hb⟩
      have gC2 := block_later hb gC
      have hB2 := below_tr hB hb
      have hs1 := showB_size s
      have hs2 : Q.size ≤ 200 := by rw [size_list, HQ.out]; exact HM.out.2.2.2.2.1
      generalize hX : showB s = X at *
      have t1 : ¬ 9223372036854775807 < 6 + X.size := by omega
      have t2 : ¬ 9223372036854775807 < Q.size + (6 + X.size) := by omega
      go_wp2
      go_meet
      exact ⟨_, rfl, by rw [HZ.out, ← HQ.out]; simp [ByteArray.data_append], hB2, gC2⟩
  case rest =>
  obtain ⟨Q5, rfl, hq, hB', gC'⟩ := hcut
  clear hD D4 HQ hB gC c0 c1 c2 c3 c4 c5 c6 cp0 cp1 cp2 cp3 cp4 cp5 cp6 HS5
  have HQ := Hid.mk hq
  have hB := hB'
  have gC := gC'
  clear hq hB' gC'
  obtain ⟨c0, c1, c2, c3, c4, c5, c6⟩ := cells7 gC
  have cp0 := c0
  have cp1 := c0
  have cp2 := c0
  have cp3 := c0
  have cp4 := c0
  have cp5 := c0
  have cp6 := c0
  generalize hQ5 : Q5 = Q at *
  go_upto_if 76 with fail
  obtain ⟨D5, hD⟩ : ∃ D, D = decide (0 < m) := ⟨_, rfl⟩
  rw [← hD]
  replace hD := Hid.mk hD
  go_cut [5] (fun t wc => ∃ Q : ByteArray, t = .string Q ∧ Q.data.toList = l6 ∧ Below w.heap.size w wc ∧ wc.heap[w.heap.size]? = some (.cells #[.int .i64 (k : Nat), .int .u64 (a : Nat), .int .i64 (b : Nat), .int .i64 (r : Nat), .int .i64 (g : Nat), .int .i64 (s : Nat), .int .u64 (m : Nat)] 24 (0, 0)))
  case first =>
    cases D5
    · have hz : m = 0 := by have := of_decide_eq_false hD.out.symm; omega
      have HZ : Hid (l6 = l5) := by show _ = _; rw [HS6.out, show pcL (nmJ 5) m = [] by unfold pcL; rw [if_pos hz], List.append_nil]
      clear hz
      go_wp2
      go_meet
      exact ⟨_, rfl, by rw [HZ.out]; exact HQ.out, hB, gC⟩
    · have hz : ¬ m = 0 := by have := of_decide_eq_true hD.out.symm; omega
      have HZ : Hid (l6 = l5 ++ ([32, 109, 97, 114, 107, 61] ++ (showB m).data.toList)) := by show _ = _; rw [HS6.out, show pcL (nmJ 5) m = [32, 109, 97, 114, 107, 61] ++ (showB m).data.toList by unfold pcL; rw [if_neg hz]; rfl]
      clear hz
      go_wp2_with fail
      refine (show_any m HB.out.2.2.2.2.2 _ (hT.later hB)).mono ?_
      rintro e w9 ⟨rfl, hb⟩
      have gC2 := block_later hb gC
      have hB2 := below_tr hB hb
      have hs1 := showB_size m
      have hs2 : Q.size ≤ 200 := by rw [size_list, HQ.out]; exact HM.out.2.2.2.2.2.1
      generalize hX : showB m = X at *
      have t1 : ¬ 9223372036854775807 < 6 + X.size := by omega
      have t2 : ¬ 9223372036854775807 < Q.size + (6 + X.size) := by omega
      go_wp2
      go_meet
      exact ⟨_, rfl, by rw [HZ.out, ← HQ.out]; simp [ByteArray.data_append], hB2, gC2⟩
  case rest =>
  obtain ⟨Q6, rfl, hq, hB', gC'⟩ := hcut
  clear hD D5 HQ hB gC c0 c1 c2 c3 c4 c5 c6 cp0 cp1 cp2 cp3 cp4 cp5 cp6 HS6
  have HQ := Hid.mk hq
  have hB := hB'
  have gC := gC'
  clear hq hB' gC'
  obtain ⟨c0, c1, c2, c3, c4, c5, c6⟩ := cells7 gC
  have cp0 := c0
  have cp1 := c0
  have cp2 := c0
  have cp3 := c0
  have cp4 := c0
  have cp5 := c0
  have cp6 := c0
  generalize hQ6 : Q6 = Q at *
  have e : Q = ⟨l6.toArray⟩ := by
    obtain ⟨⟨x⟩⟩ := Q
    have := HQ.out
    simp at this
    subst this; rfl
  subst e
  go_wp2
  go_ret
  exact ⟨rfl, hB⟩

set_option maxHeartbeats 4000000 in
theorem walk (k : Int) (a : Nat) (b r g s : Int) (m : Nat) (w : World) (ha : a < 18446744073709551616) (hm : m < 18446744073709551616) (hM : Prts w ∧ Nms w ∧ Tz w) :
    Calls Tryd.prog 9 #[.agg #[.int .i64 k, .int .u64 (a : Nat), .int .i64 b, .int .i64 r, .int .i64 g, .int .i64 s, .int .u64 (m : Nat)]] w fun e w' => e = .returned (.bool true) ∧ Below w.heap.size w w' := by
  obtain ⟨hP, hN, hT⟩ := hM
  cases hc : cB k a b r g s m
  · have cA := fun w1 h1 => anchorC_any w1 h1
    have cS := fun w1 => showC_bad k a b r g s m ha hm hc w1
    have cD := fun w1 => dright_any k a b r g s m ha hm w1
    rw [← right_same, hc] at cD
    clear hc
    go_enter Tryd.func9, Tryd.ntmps9
    go_wp2_with fail
    have gC := heap_alloc_new w (.cells #[.int .i64 k, .int .u64 (a : Nat), .int .i64 b, .int .i64 r, .int .i64 g, .int .i64 s, .int .u64 (m : Nat)] 24)
    have hB := below_new w (.cells #[.int .i64 k, .int .u64 (a : Nat), .int .i64 b, .int .i64 r, .int .i64 g, .int .i64 s, .int .u64 (m : Nat)] 24)
    generalize w.alloc (.cells #[.int .i64 k, .int .u64 (a : Nat), .int .i64 b, .int .i64 r, .int .i64 g, .int .i64 s, .int .u64 (m : Nat)] 24) = W0 at *
    obtain ⟨c0, c1, c2, c3, c4, c5, c6⟩ := cells7 gC
    have cp0 := fun o => cell_alloc (o := o) c0
    have cp1 := fun o => cell_alloc (o := o) c1
    have cp2 := fun o => cell_alloc (o := o) c2
    have cp3 := fun o => cell_alloc (o := o) c3
    have cp4 := fun o => cell_alloc (o := o) c4
    have cp5 := fun o => cell_alloc (o := o) c5
    have cp6 := fun o => cell_alloc (o := o) c6
    refine (cA _ (hP.later hB)).mono ?_
    clear c0 cp0 c1 cp1 c2 cp2 c3 cp3 c4 cp4 c5 cp5 c6 cp6
    rintro e w1 ⟨rfl, hb⟩
    replace gC := block_later hb gC
    replace hB := below_tr hB hb
    clear hb
    obtain ⟨c0, c1, c2, c3, c4, c5, c6⟩ := cells7 gC
    have cp0 := fun o => cell_alloc (o := o) c0
    have cp1 := fun o => cell_alloc (o := o) c1
    have cp2 := fun o => cell_alloc (o := o) c2
    have cp3 := fun o => cell_alloc (o := o) c3
    have cp4 := fun o => cell_alloc (o := o) c4
    have cp5 := fun o => cell_alloc (o := o) c5
    have cp6 := fun o => cell_alloc (o := o) c6
    go_wp2_with fail
    refine (cS _).mono ?_
    clear c0 cp0 c1 cp1 c2 cp2 c3 cp3 c4 cp4 c5 cp5 c6 cp6
    rintro e w2 ⟨rfl, hb⟩
    replace gC := block_later hb gC
    replace hB := below_tr hB hb
    clear hb
    obtain ⟨c0, c1, c2, c3, c4, c5, c6⟩ := cells7 gC
    have cp0 := fun o => cell_alloc (o := o) c0
    have cp1 := fun o => cell_alloc (o := o) c1
    have cp2 := fun o => cell_alloc (o := o) c2
    have cp3 := fun o => cell_alloc (o := o) c3
    have cp4 := fun o => cell_alloc (o := o) c4
    have cp5 := fun o => cell_alloc (o := o) c5
    have cp6 := fun o => cell_alloc (o := o) c6
    go_wp2_with fail
    refine (cD _).mono ?_
    clear c0 cp0 c1 cp1 c2 cp2 c3 cp3 c4 cp4 c5 cp5 c6 cp6
    rintro e w3 ⟨rfl, hb⟩
    replace gC := block_later hb gC
    replace hB := below_tr hB hb
    clear hb
    obtain ⟨c0, c1, c2, c3, c4, c5, c6⟩ := cells7 gC
    have cp0 := fun o => cell_alloc (o := o) c0
    have cp1 := fun o => cell_alloc (o := o) c1
    have cp2 := fun o => cell_alloc (o := o) c2
    have cp3 := fun o => cell_alloc (o := o) c3
    have cp4 := fun o => cell_alloc (o := o) c4
    have cp5 := fun o => cell_alloc (o := o) c5
    have cp6 := fun o => cell_alloc (o := o) c6
    go_wp2
    go_ret
    first
      | exact ⟨rfl, hB⟩
      | exact ⟨rfl, hB.alloc hB.size _⟩
  · have hk : k ≤ 10 := by
      have h := hc
      rw [right_same, d_all] at h
      obtain ⟨h1, -⟩ := sz_bits (lies_sz h.1)
      omega
    obtain ⟨K, B, R, G, S, rfl, rfl, rfl, rfl, rfl, hR⟩ := right_nats hm hc
    exact walk_ok hR hc (by omega) w hP hN hT

/-- The names' cells out of what the variable reads as. -/
theorem name_of_reads {W : World} (h : VarReads Tryd.prog W "portreeve/cap.names" Rows.laid_portreeve_cap_names) (i : Nat) (hi : i < 11) (l : List UInt8)
    (hq : (nmL.map (fun b => b.data.toList))[i]? = some l) : W.cell? ⟨6, i, none⟩ = some (.string ⟨l.toArray⟩) := by
  obtain ⟨g', t, cs, fuel, p, hg', hty, hvar, hd⟩ := h
  have hg : Tryd.prog.globalNamed "portreeve/cap.names" = some 6 := by kernel_rfl
  have ht : (Tryd.prog.globals[6]?).map (·.type) = some 75 := by kernel_rfl
  obtain rfl := Option.some.inj (hg.symm.trans hg')
  obtain rfl := Option.some.inj (ht.symm.trans hty)
  have hc1 : Tryd.prog.cellsOf 9 = 1 := by kernel_rfl
  obtain ⟨xs, m, _, hx, hl, hn, hf⟩ := DataW.trod_array Tryd.underlying75 hd
  have h1 := hf i hi
  obtain ⟨y, hy⟩ : ∃ y, xs[i]? = some y := ⟨xs[i]'(by omega), by simp⟩
  rw [hy, hc1] at h1
  obtain ⟨s, e1, e2, -⟩ := DataW.trod_string Tryd.underlying9 h1
  have hx1 : (Rows.laid_portreeve_cap_names : DataW Unit) = .agg (xs.map (·.1)) := congrArg Prod.fst hx
  have hx2 : xs.map (·.1) = nmL.map (fun b => DataW.lit (.string b.data.toList)) := by
    have : (Rows.laid_portreeve_cap_names : DataW Unit) = .agg (nmL.map (fun b => DataW.lit (.string b.data.toList))) := rfl
    rw [this] at hx1
    exact (DataW.agg.inj hx1).symm
  have hx3 := congrArg (fun q => q[i]?) hx2
  simp only [List.getElem?_map, hy, Option.map_some] at hx3 hq
  rw [World.var?_cell hg hvar i]
  cases hb : nmL[i]? with
  | none => rw [hb] at hq; cases hq
  | some b =>
    rw [hb] at hq hx3
    simp only [Option.map_some, Option.some.injEq] at hq hx3
    subst e2
    simp only [DataW.lit.injEq, Lit.string.injEq] at hx3
    have e3 : cs.toList[i]? = some (.string s) := by
      have := congrArg (fun q => q[0]?) e1
      simp only [List.getElem?_take, List.getElem?_drop] at this
      simpa using this
    rw [← Array.getElem?_toList, e3, ← hq, ← hx3]
theorem names_of_reads {W : World} (h : VarReads Tryd.prog W "portreeve/cap.names" Rows.laid_portreeve_cap_names) : Nms W :=
  ⟨name_of_reads h 0 (by decide) _ rfl, name_of_reads h 1 (by decide) _ rfl, name_of_reads h 2 (by decide) _ rfl, name_of_reads h 3 (by decide) _ rfl, name_of_reads h 4 (by decide) _ rfl, name_of_reads h 5 (by decide) _ rfl, name_of_reads h 6 (by decide) _ rfl, name_of_reads h 7 (by decide) _ rfl, name_of_reads h 8 (by decide) _ rfl, name_of_reads h 9 (by decide) _ rfl, name_of_reads h 10 (by decide) _ rfl⟩
theorem metP {W : World} (h : laidMet Tryd.prog Rows.capShowsRow.laid W) : Prts W := by
  have h0 := part_of_reads (g := 0) (by kernel_rfl) (by kernel_rfl) (Lib.laidMet.reads h (n := "portreeve/cap.kindPart") (d := Rows.laid_portreeve_cap_kindPart) (by simp [Rows.capShowsRow]))
  have h1 := part_of_reads (g := 1) (by kernel_rfl) (by kernel_rfl) (Lib.laidMet.reads h (n := "portreeve/cap.bitsPart") (d := Rows.laid_portreeve_cap_bitsPart) (by simp [Rows.capShowsRow]))
  have h2 := part_of_reads (g := 2) (by kernel_rfl) (by kernel_rfl) (Lib.laidMet.reads h (n := "portreeve/cap.rightsPart") (d := Rows.laid_portreeve_cap_rightsPart) (by simp [Rows.capShowsRow]))
  have h3 := part_of_reads (g := 3) (by kernel_rfl) (by kernel_rfl) (Lib.laidMet.reads h (n := "portreeve/cap.guardPart") (d := Rows.laid_portreeve_cap_guardPart) (by simp [Rows.capShowsRow]))
  have h4 := part_of_reads (g := 4) (by kernel_rfl) (by kernel_rfl) (Lib.laidMet.reads h (n := "portreeve/cap.asidPart") (d := Rows.laid_portreeve_cap_asidPart) (by simp [Rows.capShowsRow]))
  have h5 := part_of_reads (g := 5) (by kernel_rfl) (by kernel_rfl) (Lib.laidMet.reads h (n := "portreeve/cap.atPart") (d := Rows.laid_portreeve_cap_atPart) (by simp [Rows.capShowsRow]))
  exact ⟨h0.1, h0.2.1, h0.2.2, h1.1, h1.2.1, h1.2.2, h2.1, h2.2.1, h2.2.2, h3.1, h3.2.1, h3.2.2, h4.1, h4.2.1, h4.2.2, h5.1, h5.2.1, h5.2.2⟩

theorem met {W : World} (h : laidMet Tryd.prog Rows.capShowsRow.laid W) : Prts W ∧ Nms W ∧ Tz W :=
  ⟨metP h, names_of_reads (Lib.laidMet.reads h (n := "portreeve/cap.names") (d := Rows.laid_portreeve_cap_names) (by simp [Rows.capShowsRow])), tz_of_reads (by have := Lib.laidMet.reads h (n := "math/bits.deBruijn64tab") (d := Rows.laid_math_bits_deBruijn64tab) (by simp [Rows.capShowsRow]); rw [db_eq] at this; exact this)⟩

theorem own : ownKnob Tryd.prog.godebug = none := by kernel_rfl
theorem laidOut : laidOutB Tryd.prog = true := by kernel_rfl

set_option linter.unusedVariables false in
set_option maxRecDepth 100000 in
theorem contract (H : Type) (enc : TypeId × Value → H) (W : World) (base : Nat) (args : Array Value) (ds gs : List (DataW H)) (before : List MemPlace)
    (hval0 : ∀ (j : Nat) t v, Tryd.f9.params[j]? = some t → args[j]? = some v → Value.okWide Tryd.prog W .any base t v)
    (hW : DataW.Whole enc Tryd.prog Tryd.f9.params.toList Rows.capShowsSpec.vars false W args.toList ds gs before) (hL0 : laidMetH Tryd.prog Rows.capShowsRow.laid W) :
    Calls Tryd.prog 9 args W fun e W' => ∃ v, e = .returned v ∧ Rows.capShowsSpec.post enc Tryd.prog Tryd.f9 false true false false W args v W' := by
  have hL := hL0
  rw [MakeChecks.laidMetH_plain _ _ _ (by kernel_rfl)] at hL
  have hval := hval0
  have hW' := hW
  obtain ⟨p, q, hA0, hV, rfl, hfz, hnd⟩ := hW
  have hA : DataW.TrodAll enc Tryd.prog W 0 (fun _ => true) true Tryd.f9.params.toList args.toList ds p := hA0
  rw [Tryd.params9] at hA hval
  obtain ⟨v0, vs0, d0, ds0, p0, q0, hargs, rfl, rfl, h0, r0⟩ := trodAll_cons hA
  obtain ⟨rfl, rfl, rfl⟩ := trodAll_nil r0
  obtain rfl : args = #[v0] := by cases args; simp_all
  obtain ⟨rfl, rfl⟩ := trodVars_none hV
  have k0 := h0
  have lt0 : ∀ x ∈ p0, x.block < W.heap.size := by obtain ⟨m, hm⟩ := k0; exact DataW.trod_lt m _ _ _ hm
  obtain ⟨ck0, ca0, cb0, cr0, cg0, cs0', cm0, rfl, b0, bm0⟩ := open_cap (hval 0 24 v0 rfl rfl) h0
  clear hA0 hval0
  refine (walk ck0 ca0 cb0 cr0 cg0 cs0' cm0 W b0 bm0 (met hL)).mono fun e W' ⟨he, bel⟩ => ?_
  subst he
  exact ⟨_, rfl, _, _, _, [], _, [], hW', trodAll_mk1 (shut_bool Tryd.underlying4 _), (trodAll_cons_mk (Below.trod laidOut (by kernel_rfl) (of_decide_eq_true (by kernel_rfl)) k0 bel lt0) trodAll_mk0), rfl, bel.frame _, fun h => by cases h⟩

theorem laid_met (os : Os) : laidMet Tryd.prog Rows.capShowsRow.laid ((World.laidAll Tryd.prog os Rows.capShowsRow.laid).forCall (fun _ _ => 0) ⟨#[], #[.agg #[.int .i64 0, .int .u64 0, .int .i64 0, .int .i64 0, .int .i64 0, .int .i64 0, .int .u64 0]], []⟩).memory :=
  laidMet_laidAll _ (by kernel_rfl) (by kernel_rfl)
theorem reads (os : Os) {H : Type} (enc : TypeId × Value → H) : ∃ places, DataW.whole enc Tryd.prog ((World.laidAll Tryd.prog os Rows.capShowsRow.laid).forCall (fun _ _ => 0) ⟨#[], #[.agg #[.int .i64 0, .int .u64 0, .int .i64 0, .int .i64 0, .int .i64 0, .int .i64 0, .int .u64 0]], []⟩).memory Tryd.f9.params.toList Rows.capShowsSpec.vars false (#[.agg #[.int .i64 0, .int .u64 0, .int .i64 0, .int .i64 0, .int .i64 0, .int .i64 0, .int .u64 0]] : Array Value).toList 8 = some ([.agg [.lit (.int .i64 0), .lit (.int .u64 0), .lit (.int .i64 0), .lit (.int .i64 0), .lit (.int .i64 0), .lit (.int .i64 0), .lit (.int .u64 0)]], [], places) :=
  ⟨[], by kernel_rfl⟩

set_option maxRecDepth 100000 in
theorem lifted (os : Os) (started : os.Started) (H : Type) (enc : TypeId × Value → H) (F : Stop.Interp) :
    ReturnsInHanded {} Tryd.checked os 9 .any ((OpenSpec.ofChange Rows.capShowsSpec).preRow enc Tryd.prog Tryd.f9 Rows.capShowsRow.domain false Rows.capShowsRow.laid) (((OpenSpec.ofChange Rows.capShowsSpec).at F).post enc Tryd.prog Tryd.f9 false true false false) := by
  obtain ⟨places, hx⟩ := reads os enc
  refine returnsInHanded_of_row (C := Tryd.checked) (s := (OpenSpec.ofChange Rows.capShowsSpec)) own started (by kernel_rfl) Tryd.func9
    (witness_row_at (enc := enc) (C := Tryd.checked) false (World.laidAll Tryd.prog os Rows.capShowsRow.laid) #[.agg #[.int .i64 0, .int .u64 0, .int .i64 0, .int .i64 0, .int .i64 0, .int .i64 0, .int .u64 0]] (World.laidAll_os _ _ _) (by kernel_rfl) (by kernel_rfl) (by kernel_rfl)
      (OpenSpec.preRow_of_cond 8 hx (by kernel_rfl) (fun k hk => by cases hk) (by kernel_rfl) (laid_met os))) ?_
  intro W base args ds gs before hval hW _ _ _ hL _ _
  exact contract H enc W base args ds gs before hval hW hL

theorem said : Rows.CapShowsSaid :=
  OpenClaim.holds_of_cond 9 Tryd.f9 rfl rfl rfl rfl rfl rfl rfl ⟨rfl, rfl, rfl, rfl, rfl⟩ rfl rfl rfl rfl rfl (by kernel_rfl) Tryd.func9 (by kernel_rfl)
    (of_decide_eq_true (by kernel_rfl)) (by unfold Func.isWrapper; first | (rw [if_pos (by decide +kernel)]; kernel_rfl) | (rw [if_neg (by decide +kernel)]; exact ⟨rfl, rfl⟩))
    (fun os started H enc _ F => by rw [OpenClaim.pre_eq_preRow]; exact lifted os started H enc F)

theorem plain (f : FuncId) (fn : Func) (hf : Tryd.pinned.checked.prog.funcNamed "portreeve/portreevelaw11.CapShows" = some f) (hfn : Tryd.pinned.checked.prog.funcs[f]? = some fn) :
    true = Tryd.pinned.checked.prog.looks [] ∧ ∀ (j : Nat) t, fn.params[j]? = some t → Tryd.pinned.checked.prog.wantsStandIn t = false := by
  obtain rfl : f = 9 := Option.some.inj ((show Tryd.prog.funcNamed "portreeve/portreevelaw11.CapShows" = some 9 by kernel_rfl).symm.trans hf) |>.symm
  obtain rfl : fn = Tryd.f9 := (Option.some.inj (Tryd.func9.symm.trans hfn)).symm
  refine ⟨by kernel_rfl, fun j t ht => ?_⟩
  rw [Tryd.params9] at ht
  have hm : t ∈ [24] := by simpa using Array.mem_of_getElem? ht
  have hall : ([24].all fun u => !Tryd.prog.wantsStandIn u) = true := by kernel_rfl
  exact (show Tryd.prog.wantsStandIn t = false by simpa using List.all_eq_true.1 hall t hm)

theorem card : Rows.CapShowsCardSaid :=
  Claim7.holds_tied_plain_at .later [] _ _ _ _ said (fun _ h => by cases h) (by kernel_rfl) (fun _ h => by cases h) capShows_row_tie rfl ⟨rfl, rfl⟩ (by kernel_rfl) rfl plain (by kernel_rfl)

end Go.Proofs.YtkedoajkdobjdaaDoor.capShows
